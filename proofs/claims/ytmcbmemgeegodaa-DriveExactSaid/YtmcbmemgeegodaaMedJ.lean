/-
  Tapes: File of whatever number; of the document: Read, Files, File.
-/
import Derived.Test.YtmcbmemgeegodaaMedH
namespace Go.Proofs.Ytmcbmemgeegodaa
open Go.RowKit
set_option linter.unusedVariables false

set_option maxHeartbeats 2000000 in
theorem file_big (t : Tap) (q : Nat) (w : World) (h : t.ok w) (hg : goodK t.p t.ks = true) (hq : q ≤ 2 ^ 63 - 1) : Calls Try.prog 43 #[.agg #[.int .i64 t.p, .slice t.a t.n t.c], .int .i64 q] w (FilePost w t.ks q) := by
  have hm := Nat.le_trans h.room h.cm
  unfold maxLen at hm
  have HC := Lib.hid (check_ok t _ (h.below ((Below.refl w.heap.size w).alloc (Nat.le_refl _) (.cells #[.int .i64 t.p, .slice t.a t.n t.c] 24))) hg)
  have HB0 := Lib.hid ((Below.refl w.heap.size w).alloc (Nat.le_refl _) (.cells #[.int .i64 t.p, .slice t.a t.n t.c] 24))
  have HX := Lib.hid (alloc24 w t.p t.a t.n t.c)
  have HCS := Lib.hid h.cells; have HL := Lib.hid h.len
  obtain ⟨p, a, n, c, cs⟩ := t
  simp only [Tap.ks] at hm HC HB0 HX HCS HL ⊢
  clear h hg
  by_cases h0 : q = 0
  · subst h0
    have e0 : ((0 : Int) == 0) = true := rfl
    go_enter Try.func43, Try.ntmps43
    go_wp2_with (go_at_call 68; refine HC.out.mono ?_; rintro e w1 ⟨rfl, hB1⟩; have HB1 := Lib.hid (HB0.out.trans (hB1.mono HB0.out.size)); clear hB1)
    go_ret2
    exact ⟨HB1.out, .inl ⟨rfl, rfl⟩⟩
  have e0 : ((q : Int) == 0) = false := beq_eq_false_iff_ne.2 (by omega)
  have hq1 : 1 ≤ q := by omega
  clear h0
  go_enter Try.func43, Try.ntmps43
  go_wp2_with (go_at_call 68; refine HC.out.mono ?_; rintro e w1 ⟨rfl, hB1⟩; have hx := HX.out _ (by simpa using hB1); have HB1 := Lib.hid (HB0.out.trans (hB1.mono HB0.out.size)); clear hB1)
  go_loopw [1, 16] (fun s i wr => ∃ k m : Nat, k ≤ n ∧ i = .int .i64 k ∧ s = .int .i64 m ∧ 1 ≤ m ∧ m ≤ q ∧ marks (keys (cs.take k)) + m = q ∧ Below w.heap.size w wr) (fun _ i _ => n - (intOf i).toNat)
  case atStart => exact ⟨0, q, Nat.zero_le _, rfl, rfl, hq1, Nat.le_refl _, by simp [keys, marks], HB1.out⟩
  case round =>
    obtain ⟨k, m, hk, rfl, rfl, hm1, hmq, hmk, hB⟩ := hrel
    have HBR := Lib.hid hB; have HMK := Lib.hid hmk
    by_cases hlt : k < n
    · have e2 : decide ((k : Int) < (n : Int)) = true := decide_eq_true (by omega)
      have hlt1 : k < cs.length := by rw [HL.out]; exact hlt
      obtain ⟨b, o, rfl, c0, c1, c2, hd⟩ := (HCS.out.below hB).at hlt1
      have hkt : marks (keys (cs.take (k + 1))) = marks (keys (cs.take k)) + if cs[k].k = 2 then 1 else 0 := by rw [keys_take cs k hlt1, marks_snoc]; rfl
      have hk1 : ∀ j, marks ((keys cs).take j) = marks (keys (cs.take j)) := fun j => by unfold keys; rw [List.map_take]
      have HK1 := Lib.hid hk1
      obtain ⟨x, hx'⟩ : ∃ x, x = cs[k] := ⟨_, rfl⟩
      rw [← hx'] at c0 c1 c2 hkt
      have HKT := Lib.hid hkt
      have HB2 := Lib.hid (hB.alloc hB.size (.cells #[.int .i64 x.k, .slice x.d.a x.d.l x.d.c, .bool x.b] 62))
      have i1 : (0 : Int) ≤ (k : Int) := by omega
      have i2 : (k : Int) < (n : Int) := by omega
      clear hB hd hx' hkt hmk hk1
      by_cases h2 : x.k = 2
      · have e3 : (x.k != 2) = false := by simp [h2]
        have HK := Lib.hid h2
        clear h2
        by_cases h1 : m = 1
        · subst h1
          have e4 : ((1 : Int) - 1 == 0) = true := rfl
          go_wp2
          go_ret2
          refine ⟨HB2.out, .inr (.inl ⟨hq1, k, by rw [keys_len]; exact hlt1, ?_, ?_, rfl⟩)⟩
          · rw [HK1.out, HKT.out, if_pos HK.out]; exact HMK.out
          · rw [HK1.out]; exact HMK.out
        · have e4 : ((m : Int) - 1 == 0) = false := beq_eq_false_iff_ne.2 (by omega)
          go_wp2
          go_roundw
          case rel => exact ⟨k + 1, m - 1, by omega, by go_num, (by rw [show ((m - 1 : Nat) : Int) = (m : Int) - 1 by omega]), by omega, by omega, by rw [HKT.out, if_pos HK.out]; have := HMK.out; omega, HB2.out⟩
          case measure => simp [intOf]; omega
      · have e3 : (x.k != 2) = true := by simp [h2]
        have HK := Lib.hid h2
        clear h2
        go_wp2
        go_roundw
        case rel => exact ⟨k + 1, m, by omega, by go_num, rfl, hm1, hmq, by rw [HKT.out, if_neg HK.out]; exact HMK.out, HB2.out⟩
        case measure => simp [intOf]; omega
    · have e2 : decide ((k : Int) < (n : Int)) = false := decide_eq_false (by omega)
      obtain rfl : n = k := by omega
      have hfin : marks (keys cs) < q := by
        rw [List.take_of_length_le (by rw [HL.out]; exact Nat.le_refl _)] at hmk; omega
      have HF := Lib.hid hfin
      clear hB hfin hmk
      go_wp2
      go_ret2
      exact ⟨HBR.out, .inr (.inr ⟨hq1, HF.out, rfl⟩)⟩


set_option maxHeartbeats 2000000 in
/-- FILE, of a negative number. -/
theorem file_neg (t : Tap) (q : Int) (w : World) (h : t.ok w) (hg : goodK t.p t.ks = true) (hq : q < 0) (hq2 : -9223372036854775808 ≤ q) : Calls Try.prog 43 #[.agg #[.int .i64 t.p, .slice t.a t.n t.c], .int .i64 q] w fun e w' => e = .returned (.tuple #[.int .i64 0, .int .i64 8]) ∧ Below w.heap.size w w' := by
  obtain ⟨_, _, _, s4, _, _⟩ := h.sizes hg
  have hm := Nat.le_trans h.room h.cm
  unfold maxLen at hm
  have HC := Lib.hid (check_ok t _ (h.below ((Below.refl w.heap.size w).alloc (Nat.le_refl _) (.cells #[.int .i64 t.p, .slice t.a t.n t.c] 24))) hg)
  have HB0 := Lib.hid ((Below.refl w.heap.size w).alloc (Nat.le_refl _) (.cells #[.int .i64 t.p, .slice t.a t.n t.c] 24))
  have HX := Lib.hid (alloc24 w t.p t.a t.n t.c)
  have HCS := Lib.hid h.cells; have HL := Lib.hid h.len
  obtain ⟨p, a, n, c, cs⟩ := t
  simp only at s4 hm HC HB0 HX HCS HL ⊢
  clear h hg
  have e0 : (q == 0) = false := beq_eq_false_iff_ne.2 (by omega)
  go_enter Try.func43, Try.ntmps43
  go_wp2_with (go_at_call 68; refine HC.out.mono ?_; rintro e w1 ⟨rfl, hB1⟩; have hx := HX.out _ (by simpa using hB1); have HB1 := Lib.hid (HB0.out.trans (hB1.mono HB0.out.size)); clear hB1)
  go_loopw [1, 16] (fun s i wr => ∃ (k : Nat) (m : Int), k ≤ n ∧ i = .int .i64 k ∧ s = .int .i64 m ∧ ((m ≤ -1 ∧ -9223372036854775808 ≤ m) ∨ (9223372036854775807 - (k : Int) ≤ m ∧ m ≤ 9223372036854775807)) ∧ Below w.heap.size w wr) (fun _ i _ => n - (intOf i).toNat)
  case atStart => exact ⟨0, q, Nat.zero_le _, rfl, rfl, .inl ⟨by omega, hq2⟩, HB1.out⟩
  case round =>
    obtain ⟨k, m, hk, rfl, rfl, hmm, hB⟩ := hrel
    have HBR := Lib.hid hB
    by_cases hlt : k < n
    · have e2 : decide ((k : Int) < (n : Int)) = true := decide_eq_true (by omega)
      have hlt1 : k < cs.length := by rw [HL.out]; exact hlt
      obtain ⟨b, o, rfl, c0, c1, c2, hd⟩ := (HCS.out.below hB).at hlt1
      obtain ⟨x, hx'⟩ : ∃ x, x = cs[k] := ⟨_, rfl⟩
      rw [← hx'] at c0 c1 c2
      have HB2 := Lib.hid (hB.alloc hB.size (.cells #[.int .i64 x.k, .slice x.d.a x.d.l x.d.c, .bool x.b] 62))
      have i1 : (0 : Int) ≤ (k : Int) := by omega
      have i2 : (k : Int) < (n : Int) := by omega
      clear hB hd hx' e0 hq hq2
      by_cases h2 : x.k = 2
      · have e3 : (x.k != 2) = false := by simp [h2]
        clear h2
        obtain ⟨m', hw, hm'⟩ : ∃ m' : Int, IntKind.i64.wrap (m - 1) = m' ∧ ((m' ≤ -1 ∧ -9223372036854775808 ≤ m') ∨ (9223372036854775807 - ((k + 1 : Nat) : Int) ≤ m' ∧ m' ≤ 9223372036854775807)) := by
          by_cases hmin : m = -9223372036854775808
          · exact ⟨9223372036854775807, by rw [hmin]; decide, .inr ⟨by omega, by omega⟩⟩
          · exact ⟨m - 1, IntWalk.i64_in _ (by omega), by omega⟩
        have e4 : (m' == 0) = false := beq_eq_false_iff_ne.2 (by omega)
        have HM := Lib.hid hm'; have HS4 := Lib.hid s4
        clear hm' hmm s4
        go_wp2
        go_roundw
        case rel => exact ⟨k + 1, m', by omega, by go_num, rfl, HM.out, HB2.out⟩
        case measure => simp [intOf]; omega
      · have e3 : (x.k != 2) = true := by simp [h2]
        clear h2
        go_wp2
        go_roundw
        case rel => exact ⟨k + 1, m, by omega, by go_num, rfl, by omega, HB2.out⟩
        case measure => simp [intOf]; omega
    · have e2 : decide ((k : Int) < (n : Int)) = false := decide_eq_false (by omega)
      obtain rfl : n = k := by omega
      clear hB
      go_wp2
      go_ret2
      exact ⟨rfl, HBR.out⟩



set_option maxHeartbeats 2000000 in
/-- FILE, OF THE DOCUMENT. -/
theorem rfile_any (t : Tap) (q : Nat) (w : World) (h : t.ok w) (hq : q ≤ 2 ^ 63 - 1) : Calls Try.prog 59 #[.agg #[.int .i64 t.p, .slice t.a t.n t.c], .int .i64 q] w (FilePost w t.ks q) := by
  have hm := Nat.le_trans h.room h.cm
  unfold maxLen at hm
  have HCS := Lib.hid h.cells; have HL := Lib.hid h.len
  obtain ⟨p, a, n, c, cs⟩ := t
  simp only [Tap.ks] at hm HCS HL ⊢
  clear h
  have HB0 := Lib.hid ((Below.refl w.heap.size w).alloc (Nat.le_refl _) (.cells #[.int .i64 p, .slice a n c] 24))
  have HX0 := Lib.hid (new_cell (w := w) (.int .i64 p) (.slice a n c) 24)
  by_cases h0 : q = 0
  · subst h0
    have e0 : ((0 : Int) == 0) = true := rfl
    go_enter Try.func59, Try.ntmps59
    go_wp2
    go_ret2
    exact ⟨HB0.out, .inl ⟨rfl, rfl⟩⟩
  have e0 : ((q : Int) == 0) = false := beq_eq_false_iff_ne.2 (by omega)
  have hq1 : 1 ≤ q := by omega
  clear h0
  go_enter Try.func59, Try.ntmps59
  go_wp2
  go_loopw [1, 6] (fun s i wr => ∃ k m : Nat, k ≤ n ∧ i = .int .i64 k ∧ s = .int .i64 m ∧ 1 ≤ m ∧ m ≤ q ∧ marks (keys (cs.take k)) + m = q ∧ wr.heap[w.heap.size]? = some (.cells #[.int .i64 p, .slice a n c] 24 (0, 0)) ∧ Below w.heap.size w wr) (fun _ i _ => n - (intOf i).toNat)
  case atStart => exact ⟨0, q, Nat.zero_le _, rfl, rfl, hq1, Nat.le_refl _, by simp [keys, marks], HX0.out, HB0.out⟩
  case round =>
    obtain ⟨k, m, hk, rfl, rfl, hm1, hmq, hmk, hx, hB⟩ := hrel
    have HBR := Lib.hid hB; have HMK := Lib.hid hmk; have HXR := Lib.hid hx
    obtain ⟨y0, y1, _⟩ := cells2 hx
    have d1 : decide ((0 : Int) < (m : Int)) = true := decide_eq_true (by omega)
    have d1' : decide (0 < m) = true := decide_eq_true (by omega)
    by_cases hlt : k < n
    · have e2 : decide ((k : Int) < (n : Int)) = true := decide_eq_true (by omega)
      have e2' : decide (k < n) = true := decide_eq_true (by omega)
      have hlt1 : k < cs.length := by rw [HL.out]; exact hlt
      obtain ⟨b, o, rfl, c0, c1, c2, hd⟩ := (HCS.out.below hB).at hlt1
      have hkt : marks (keys (cs.take (k + 1))) = marks (keys (cs.take k)) + if cs[k].k = 2 then 1 else 0 := by rw [keys_take cs k hlt1, marks_snoc]; rfl
      have hk1 : ∀ j, marks ((keys cs).take j) = marks (keys (cs.take j)) := fun j => by unfold keys; rw [List.map_take]
      have HK1 := Lib.hid hk1
      obtain ⟨x, hx'⟩ : ∃ x, x = cs[k] := ⟨_, rfl⟩
      rw [← hx'] at c0 c1 c2 hkt
      have HKT := Lib.hid hkt
      have i1 : (0 : Int) ≤ (k : Int) := by omega
      have i2 : (k : Int) < (n : Int) := by omega
      clear hB hd hx' hkt hmk hk1 hx
      by_cases h2 : x.k = 2
      · have e3 : (x.k == 2) = true := beq_iff_eq.2 h2
        have HK := Lib.hid h2
        clear h2
        by_cases h1 : m = 1
        · subst h1
          have e4 : ((1 : Int) - 1 == 0) = true := rfl
          go_wp2
          go_ret2
          refine ⟨HBR.out, .inr (.inl ⟨hq1, k, by rw [keys_len]; exact hlt1, ?_, ?_, rfl⟩)⟩
          · rw [HK1.out, HKT.out, if_pos HK.out]; exact HMK.out
          · rw [HK1.out]; exact HMK.out
        · have e4 : ((m : Int) - 1 == 0) = false := beq_eq_false_iff_ne.2 (by omega)
          go_wp2
          go_roundw
          case rel => exact ⟨k + 1, m - 1, by omega, by go_num, (by rw [show ((m - 1 : Nat) : Int) = (m : Int) - 1 by omega]), by omega, by omega, by rw [HKT.out, if_pos HK.out]; have := HMK.out; omega, HXR.out, HBR.out⟩
          case measure => simp [intOf]; omega
      · have e3 : (x.k == 2) = false := beq_eq_false_iff_ne.2 h2
        have HK := Lib.hid h2
        clear h2
        go_wp2
        go_roundw
        case rel => exact ⟨k + 1, m, by omega, by go_num, rfl, hm1, hmq, by rw [HKT.out, if_neg HK.out]; exact HMK.out, HXR.out, HBR.out⟩
        case measure => simp [intOf]; omega
    · have e2 : decide ((k : Int) < (n : Int)) = false := decide_eq_false (by omega)
      have e2' : decide (k < n) = false := decide_eq_false (by omega)
      obtain rfl : n = k := by omega
      have hfin : marks (keys cs) < q := by
        rw [List.take_of_length_le (by rw [HL.out]; exact Nat.le_refl _)] at hmk; omega
      have HF := Lib.hid hfin
      clear hB hfin hmk hx
      go_wp2
      go_ret2
      exact ⟨HBR.out, .inr (.inr ⟨hq1, HF.out, rfl⟩)⟩

set_option maxHeartbeats 2000000 in
/-- READ, OF THE DOCUMENT. -/
theorem rread_any (t : Tap) (q : Int) (w : World) (h : t.ok w) (hd6 : ∀ k, (hk : k < t.cs.length) → t.cs[k].d.l ≤ 1000000) : Calls Try.prog 49 #[.agg #[.int .i64 t.p, .slice t.a t.n t.c], .int .i64 q] w (ReadPost w (rd t.ks q)) := by
  have hm := Nat.le_trans h.room h.cm
  unfold maxLen at hm
  obtain ⟨r, hr⟩ : ∃ r, r = rd t.ks q := ⟨_, rfl⟩
  rw [← hr]
  by_cases hq : 0 ≤ q ∧ q < (t.n : Int)
  · obtain ⟨k, rfl⟩ : ∃ k : Nat, q = k := ⟨q.toNat, by omega⟩
    have hlt : k < t.cs.length := by rw [h.len]; omega
    have hl6 := hd6 k hlt
    have hkk : t.ks[k]? = some (t.cs[k].k, t.cs[k].d.z, t.cs[k].b) := keys_get t.cs k hlt
    have hrc : rd t.ks (k : Int) = rc (t.cs[k].k, t.cs[k].d.z, t.cs[k].b) := by unfold rd; rw [if_pos (by omega), Int.toNat_natCast, hkk]
    rw [hrc] at hr
    obtain ⟨b, o, ha, c0', c1', c2', hd'⟩ := h.cells.at hlt
    obtain ⟨x, hx⟩ : ∃ x, x = t.cs[k] := ⟨_, rfl⟩
    rw [← hx] at c0' c1' c2' hd' hr hl6
    obtain ⟨p, a, n, c, cs⟩ := t
    simp only at ha
    subst ha
    simp only at hq hm ⊢
    have i1 : (0 : Int) ≤ (k : Int) := by omega
    have i2 : (k : Int) < (n : Int) := by omega
    have d2 : decide ((n : Int) ≤ (k : Int)) = false := decide_eq_false (by omega)
    have d2' : decide (n ≤ k) = false := decide_eq_false (by omega)
    unfold rc at hr
    simp only at hr
    clear h hd6 hx hlt hkk hrc hq
    by_cases h2 : x.k = 2
    · have e3 : (x.k == 2) = true := beq_iff_eq.2 h2
      rw [if_pos h2] at hr
      have x0 := new_cell (w := w) (.int .i64 p) (.slice (some ⟨b, o, none⟩) n c) 24
      obtain ⟨y0, y1, _⟩ := cells2 x0
      have hb0 : Below w.heap.size w (w.alloc (.cells #[.int .i64 p, .slice (some ⟨b, o, none⟩) n c] 24)) := (Below.refl _ _).alloc (Nat.le_refl _) _
      have c0 := (hb0.cell (cell_lt c0')).trans c0'
      have c1 := (hb0.cell (cell_lt c1')).trans c1'
      have c2 := (hb0.cell (cell_lt c2')).trans c2'
      have HB0 := Lib.hid hb0; have HD := Lib.hid hd'; have HR := Lib.hid hr
      clear x0 hb0 c0' c1' c2' hd' hr h2
      go_enter Try.func49, Try.ntmps49
      go_wp2
      go_ret2
      exact ReadPost.none_ HR.out (HB0.out.alloc HB0.out.size _)
    have e3 : (x.k == 2) = false := beq_eq_false_iff_ne.2 h2
    rw [if_neg h2] at hr
    by_cases h3 : x.k = 3
    · have e4 : (x.k == 3) = true := beq_iff_eq.2 h3
      rw [if_pos (.inl h3)] at hr
      have x0 := new_cell (w := w) (.int .i64 p) (.slice (some ⟨b, o, none⟩) n c) 24
      obtain ⟨y0, y1, _⟩ := cells2 x0
      have hb0 : Below w.heap.size w (w.alloc (.cells #[.int .i64 p, .slice (some ⟨b, o, none⟩) n c] 24)) := (Below.refl _ _).alloc (Nat.le_refl _) _
      have c0 := (hb0.cell (cell_lt c0')).trans c0'
      have c1 := (hb0.cell (cell_lt c1')).trans c1'
      have c2 := (hb0.cell (cell_lt c2')).trans c2'
      have HB0 := Lib.hid hb0; have HD := Lib.hid hd'; have HR := Lib.hid hr
      clear x0 hb0 c0' c1' c2' hd' hr h2 h3
      go_enter Try.func49, Try.ntmps49
      go_wp2
      go_ret2
      exact ReadPost.none_ HR.out (HB0.out.alloc HB0.out.size _)
    have e4 : (x.k == 3) = false := beq_eq_false_iff_ne.2 h3
    obtain ⟨bb, hbb⟩ : ∃ bb, bb = x.b := ⟨_, rfl⟩
    rw [← hbb] at hr c2'
    clear hbb
    cases bb with
    | true =>
      rw [if_pos (.inr rfl)] at hr
      have x0 := new_cell (w := w) (.int .i64 p) (.slice (some ⟨b, o, none⟩) n c) 24
      obtain ⟨y0, y1, _⟩ := cells2 x0
      have hb0 : Below w.heap.size w (w.alloc (.cells #[.int .i64 p, .slice (some ⟨b, o, none⟩) n c] 24)) := (Below.refl _ _).alloc (Nat.le_refl _) _
      have c0 := (hb0.cell (cell_lt c0')).trans c0'
      have c1 := (hb0.cell (cell_lt c1')).trans c1'
      have c2 := (hb0.cell (cell_lt c2')).trans c2'
      have HB0 := Lib.hid hb0; have HD := Lib.hid hd'; have HR := Lib.hid hr
      clear x0 hb0 c0' c1' c2' hd' hr h2 h3
      go_enter Try.func49, Try.ntmps49
      go_wp2
      go_ret2
      exact ReadPost.none_ HR.out (HB0.out.alloc HB0.out.size _)
    | false =>
      rw [if_neg (by simp [h3])] at hr
      have x0 := new_cell (w := w) (.int .i64 p) (.slice (some ⟨b, o, none⟩) n c) 24
      obtain ⟨y0, y1, _⟩ := cells2 x0
      have hb0 : Below w.heap.size w (w.alloc (.cells #[.int .i64 p, .slice (some ⟨b, o, none⟩) n c] 24)) := (Below.refl _ _).alloc (Nat.le_refl _) _
      have c0 := (hb0.cell (cell_lt c0')).trans c0'
      have c1 := (hb0.cell (cell_lt c1')).trans c1'
      have c2 := (hb0.cell (cell_lt c2')).trans c2'
      have HB0 := Lib.hid hb0; have HD := Lib.hid hd'; have HR := Lib.hid hr
      have hb3 := hb0.alloc hb0.size (.cells #[.int .i64 x.k, .slice x.d.a x.d.l x.d.c, .bool false] 62)
      have HB3 := Lib.hid hb3
      have HTW := Lib.hid (twin_any x.d.a x.d.l x.d.c x.d.z _ hd'.len hl6 (hd'.below hb3).rd hd'.nil)
      clear x0 hb0 c0' c1' c2' hd' hr h2 h3 hb3
      go_enter Try.func49, Try.ntmps49
      go_wp2_with (go_at_call 33; fail)
      refine HTW.out.mono ?_
      rintro e w4 ⟨ko, kc, rfl, how, hB4⟩
      have hlen := HD.out.len
      have HE : Hid (ReadPost w r (.returned (.tuple #[.slice ko x.d.l kc, .int .i64 0])) w4) := by
        rw [HR.out]
        refine ⟨ko, kc, by rw [hlen], ?_, HB3.out.trans (hB4.mono HB3.out.size)⟩
        rw [hlen]
        exact own_low how HB3.out.size
      clear how hB4 hlen
      go_wp2
      go_ret2
      exact HE.out
  · have hrd : rd t.ks q = (8, []) := by
      unfold rd
      by_cases h0 : 0 ≤ q
      · rw [if_pos h0, List.getElem?_eq_none (by unfold Tap.ks; rw [keys_len, h.len]; omega)]
      · rw [if_neg h0]
    rw [hrd] at hr
    obtain ⟨p, a, n, c, cs⟩ := t
    simp only at hq
    have HR := Lib.hid hr
    have x0 := new_cell (w := w) (.int .i64 p) (.slice a n c) 24
    obtain ⟨y0, y1, _⟩ := cells2 x0
    have HB0 := Lib.hid ((Below.refl w.heap.size w).alloc (Nat.le_refl _) (.cells #[.int .i64 p, .slice a n c] 24))
    by_cases hq0 : q < 0
    · have d1 : decide (q < 0) = true := decide_eq_true hq0
      simp only
      clear h hd6 hr hq hrd x0 hq0
      go_enter Try.func49, Try.ntmps49
      go_wp2
      go_ret2
      exact ReadPost.none_ HR.out HB0.out
    · have d1 : decide (q < 0) = false := decide_eq_false hq0
      have d2 : decide ((n : Int) ≤ q) = true := decide_eq_true (by omega)
      simp only
      clear h hd6 hr hq hrd x0 hq0
      go_enter Try.func49, Try.ntmps49
      go_wp2
      go_ret2
      exact ReadPost.none_ HR.out HB0.out
end Go.Proofs.Ytmcbmemgeegodaa
