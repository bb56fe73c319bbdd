/-
  Tapes: Files, File, Read.
-/
import Derived.Test.YtmcbmemgeegodaaMed2
namespace Go.Proofs.Ytmcbmemgeegodaa
open Go.RowKit
set_option linter.unusedVariables false

theorem alloc24 (w : World) (p : Int) (a : Option Addr) (n c : Nat) : ∀ V, Below (w.heap.size + 1) (w.alloc (.cells #[.int .i64 p, .slice a n c] 24)) V → V.cell? ⟨w.heap.size, 1, none⟩ = some (.slice a n c) := fun V hV => by
  rw [hV.cell (p := ⟨w.heap.size, 1, none⟩) (by simp), World.cell?_alloc_mark]; rfl

set_option maxHeartbeats 1000000 in
/-- FILES, of a right tape. -/
theorem files_any (t : Tap) (w : World) (h : t.ok w) (hg : goodK t.p t.ks = true) : Calls Try.prog 41 #[.agg #[.int .i64 t.p, .slice t.a t.n t.c]] w fun e w' => e = .returned (.int .i64 (marks t.ks)) ∧ Below w.heap.size w w' := by
  have hm := Nat.le_trans h.room h.cm
  unfold maxLen at hm
  have HC := Lib.hid (check_ok t _ (h.below ((Below.refl w.heap.size w).alloc (Nat.le_refl _) (.cells #[.int .i64 t.p, .slice t.a t.n t.c] 24))) hg)
  have HB0 := Lib.hid ((Below.refl w.heap.size w).alloc (Nat.le_refl _) (.cells #[.int .i64 t.p, .slice t.a t.n t.c] 24))
  have HX := Lib.hid (alloc24 w t.p t.a t.n t.c)
  have HCS := Lib.hid h.cells; have HL := Lib.hid h.len
  obtain ⟨p, a, n, c, cs⟩ := t
  simp only [Tap.ks] at hm HC HB0 HX HCS HL ⊢
  clear h hg
  obtain ⟨mk, hmk⟩ : ∃ mk, mk = marks (keys cs) := ⟨_, rfl⟩
  have HMK := Lib.hid hmk
  rw [← hmk]
  clear hmk
  go_enter Try.func41, Try.ntmps41
  go_wp2_with (go_at_call 68; refine HC.out.mono ?_; rintro e w1 ⟨rfl, hB1⟩; have hx := HX.out _ (by simpa using hB1); have HB1 := Lib.hid (HB0.out.trans (hB1.mono HB0.out.size)); clear hB1)
  go_loopw [3, 12] (fun s i wr => ∃ k : Nat, k ≤ n ∧ i = .int .i64 k ∧ s = .int .i64 (marks (keys (cs.take k))) ∧ Below w.heap.size w wr) (fun _ i _ => n - (intOf i).toNat)
  case atStart => exact ⟨0, Nat.zero_le _, rfl, rfl, HB1.out⟩
  case round =>
    obtain ⟨k, hk, rfl, rfl, hB⟩ := hrel
    have HBR := Lib.hid hB
    have hmb : marks (keys (cs.take k)) ≤ k := Nat.le_trans (marks_le _) (by rw [keys_len]; exact List.length_take_le _ _)
    by_cases hlt : k < n
    · have e2 : decide ((k : Int) < (n : Int)) = true := decide_eq_true (by omega)
      have hlt1 : k < cs.length := by rw [HL.out]; exact hlt
      obtain ⟨b, o, rfl, c0, c1, c2, hd⟩ := (HCS.out.below hB).at hlt1
      have hkt : marks (keys (cs.take (k + 1))) = marks (keys (cs.take k)) + if cs[k].k = 2 then 1 else 0 := by rw [keys_take cs k hlt1, marks_snoc]; rfl
      obtain ⟨x, hx'⟩ : ∃ x, x = cs[k] := ⟨_, rfl⟩
      rw [← hx'] at c0 c1 c2 hkt
      obtain ⟨mm, hmm⟩ : ∃ mm, mm = marks (keys (cs.take k)) := ⟨_, rfl⟩
      rw [← hmm] at hkt hmb
      have HKT := Lib.hid hkt
      have HB2 := Lib.hid (hB.alloc hB.size (.cells #[.int .i64 x.k, .slice x.d.a x.d.l x.d.c, .bool x.b] 62))
      have i1 : (0 : Int) ≤ (k : Int) := by omega
      have i2 : (k : Int) < (n : Int) := by omega
      have HMM := Lib.hid hmm
      rw [← hmm]
      clear hB hd hx' hkt hmm
      by_cases h2 : x.k = 2
      · have e3 : (x.k == 2) = true := beq_iff_eq.2 h2
        have HK := Lib.hid h2
        clear h2
        go_wp2
        go_roundw
        case rel => exact ⟨k + 1, by omega, by go_num, by rw [HKT.out, if_pos HK.out]; go_num, HB2.out⟩
        case measure => simp [intOf]; omega
      · have e3 : (x.k == 2) = false := beq_eq_false_iff_ne.2 h2
        have HK := Lib.hid h2
        clear h2
        go_wp2
        go_roundw
        case rel => exact ⟨k + 1, by omega, by go_num, by rw [HKT.out, if_neg HK.out]; go_num, HB2.out⟩
        case measure => simp [intOf]; omega
    · have e2 : decide ((k : Int) < (n : Int)) = false := decide_eq_false (by omega)
      obtain rfl : n = k := by omega
      have he : marks (keys (cs.take n)) = mk := by rw [List.take_of_length_le (by rw [HL.out]; exact Nat.le_refl _)]; exact HMK.out.symm
      rw [he]
      clear hB he hmb
      go_wp2
      go_ret
      exact ⟨rfl, HBR.out⟩

/-- What File tells of the n-th mark. -/
def FilePost (w : World) (ks : List Key) (n : Nat) (e : Ending) (w' : World) : Prop :=
  Below w.heap.size w w' ∧ ((n = 0 ∧ e = .returned (.tuple #[.int .i64 0, .int .i64 0])) ∨
    (1 ≤ n ∧ ∃ j : Nat, j < ks.length ∧ marks (ks.take (j + 1)) = n ∧ marks (ks.take j) + 1 = n ∧ e = .returned (.tuple #[.int .i64 ((j : Int) + 1), .int .i64 0])) ∨
    (1 ≤ n ∧ marks ks < n ∧ e = .returned (.tuple #[.int .i64 0, .int .i64 8])))

set_option maxHeartbeats 1000000 in
/-- FILE, of a right tape. -/
theorem file_any (t : Tap) (q : Nat) (w : World) (h : t.ok w) (hg : goodK t.p t.ks = true) (hq : q ≤ 1000000) : Calls Try.prog 43 #[.agg #[.int .i64 t.p, .slice t.a t.n t.c], .int .i64 q] w (FilePost w t.ks q) := by
  have hm := Nat.le_trans h.room h.cm
  unfold maxLen at hm
  have HC := Lib.hid (check_ok t _ (h.below ((Below.refl w.heap.size w).alloc (Nat.le_refl _) (.cells #[.int .i64 t.p, .slice t.a t.n t.c] 24))) hg)
  have HB0 := Lib.hid ((Below.refl w.heap.size w).alloc (Nat.le_refl _) (.cells #[.int .i64 t.p, .slice t.a t.n t.c] 24))
  have HX := Lib.hid (alloc24 w t.p t.a t.n t.c)
  have HCS := Lib.hid h.cells; have HL := Lib.hid h.len
  obtain ⟨p, a, n, c, cs⟩ := t
  simp only [Tap.ks] at hm HC HB0 HX HCS HL ⊢
  clear h hg
  by_cases h0 : q = 0
  · subst h0
    have e0 : ((0 : Int) == 0) = true := rfl
    go_enter Try.func43, Try.ntmps43
    go_wp2_with (go_at_call 68; refine HC.out.mono ?_; rintro e w1 ⟨rfl, hB1⟩; have HB1 := Lib.hid (HB0.out.trans (hB1.mono HB0.out.size)); clear hB1)
    go_ret2
    exact ⟨HB1.out, .inl ⟨rfl, rfl⟩⟩
  have e0 : ((q : Int) == 0) = false := beq_eq_false_iff_ne.2 (by omega)
  have hq1 : 1 ≤ q := by omega
  clear h0
  go_enter Try.func43, Try.ntmps43
  go_wp2_with (go_at_call 68; refine HC.out.mono ?_; rintro e w1 ⟨rfl, hB1⟩; have hx := HX.out _ (by simpa using hB1); have HB1 := Lib.hid (HB0.out.trans (hB1.mono HB0.out.size)); clear hB1)
  go_loopw [1, 16] (fun s i wr => ∃ k m : Nat, k ≤ n ∧ i = .int .i64 k ∧ s = .int .i64 m ∧ 1 ≤ m ∧ m ≤ q ∧ marks (keys (cs.take k)) + m = q ∧ Below w.heap.size w wr) (fun _ i _ => n - (intOf i).toNat)
  case atStart => exact ⟨0, q, Nat.zero_le _, rfl, rfl, hq1, Nat.le_refl _, by simp [keys, marks], HB1.out⟩
  case round =>
    obtain ⟨k, m, hk, rfl, rfl, hm1, hmq, hmk, hB⟩ := hrel
    have HBR := Lib.hid hB; have HMK := Lib.hid hmk
    by_cases hlt : k < n
    · have e2 : decide ((k : Int) < (n : Int)) = true := decide_eq_true (by omega)
      have hlt1 : k < cs.length := by rw [HL.out]; exact hlt
      obtain ⟨b, o, rfl, c0, c1, c2, hd⟩ := (HCS.out.below hB).at hlt1
      have hkt : marks (keys (cs.take (k + 1))) = marks (keys (cs.take k)) + if cs[k].k = 2 then 1 else 0 := by rw [keys_take cs k hlt1, marks_snoc]; rfl
      have hk1 : ∀ j, marks ((keys cs).take j) = marks (keys (cs.take j)) := fun j => by unfold keys; rw [List.map_take]
      have HK1 := Lib.hid hk1
      obtain ⟨x, hx'⟩ : ∃ x, x = cs[k] := ⟨_, rfl⟩
      rw [← hx'] at c0 c1 c2 hkt
      have HKT := Lib.hid hkt
      have HB2 := Lib.hid (hB.alloc hB.size (.cells #[.int .i64 x.k, .slice x.d.a x.d.l x.d.c, .bool x.b] 62))
      have i1 : (0 : Int) ≤ (k : Int) := by omega
      have i2 : (k : Int) < (n : Int) := by omega
      clear hB hd hx' hkt hmk hk1
      by_cases h2 : x.k = 2
      · have e3 : (x.k != 2) = false := by simp [h2]
        have HK := Lib.hid h2
        clear h2
        by_cases h1 : m = 1
        · subst h1
          have e4 : ((1 : Int) - 1 == 0) = true := rfl
          go_wp2
          go_ret2
          refine ⟨HB2.out, .inr (.inl ⟨hq1, k, by rw [keys_len]; exact hlt1, ?_, ?_, rfl⟩)⟩
          · rw [HK1.out, HKT.out, if_pos HK.out]; exact HMK.out
          · rw [HK1.out]; exact HMK.out
        · have e4 : ((m : Int) - 1 == 0) = false := beq_eq_false_iff_ne.2 (by omega)
          go_wp2
          go_roundw
          case rel => exact ⟨k + 1, m - 1, by omega, by go_num, (by rw [show ((m - 1 : Nat) : Int) = (m : Int) - 1 by omega]), by omega, by omega, by rw [HKT.out, if_pos HK.out]; have := HMK.out; omega, HB2.out⟩
          case measure => simp [intOf]; omega
      · have e3 : (x.k != 2) = true := by simp [h2]
        have HK := Lib.hid h2
        clear h2
        go_wp2
        go_roundw
        case rel => exact ⟨k + 1, m, by omega, by go_num, rfl, hm1, hmq, by rw [HKT.out, if_neg HK.out]; exact HMK.out, HB2.out⟩
        case measure => simp [intOf]; omega
    · have e2 : decide ((k : Int) < (n : Int)) = false := decide_eq_false (by omega)
      obtain rfl : n = k := by omega
      have hfin : marks (keys cs) < q := by
        rw [List.take_of_length_le (by rw [HL.out]; exact Nat.le_refl _)] at hmk; omega
      have HF := Lib.hid hfin
      clear hB hfin hmk
      go_wp2
      go_ret2
      exact ⟨HBR.out, .inr (.inr ⟨hq1, HF.out, rfl⟩)⟩

/-- What a cell is read as: an error's number, its bytes. -/
def rc (x : Key) : Int × List Int := if x.1 = 2 then (15, []) else if x.1 = 3 ∨ x.2.2 = true then (6, []) else (0, x.2.1)
/-- What is read at q. -/
def rd (ks : List Key) (q : Int) : Int × List Int := if 0 ≤ q then (match ks[q.toNat]? with | some x => rc x | none => (8, [])) else (8, [])
/-- What Read leaves. -/
def ReadPost (w : World) (r : Int × List Int) (e : Ending) (w' : World) : Prop :=
  ∃ ko kc, e = .returned (.tuple #[.slice ko r.2.length kc, .int .i64 r.1]) ∧ Ow w' w.heap.size ko r.2.length kc r.2 ∧ Below w.heap.size w w'
theorem ReadPost.none_ {w w' : World} {r : Int × List Int} {er : Int} (hr : r = (er, [])) (hB : Below w.heap.size w w') : ReadPost w r (.returned (.tuple #[.slice none 0 0, .int .i64 er])) w' := by
  subst hr
  exact ⟨none, 0, rfl, ⟨rfl, Nat.le_refl _, Nat.zero_le _, World.ownsRow_nil _ _ _ _⟩, hB⟩

/-- bytes.Clone, of whatever bytes. -/
theorem clone_none (w : World) : Calls Try.prog 70 #[.slice none 0 0] w fun e w' => e = .returned (.slice none 0 0) ∧ w = w' := by
  have q : ∀ (w : World) (a : Option Addr) (n c n' c' : Nat), (binOp .eql 42 (.slice a n c) (.slice none n' c')).run Try.prog w = .ok (.bool a.isNone) w := fun w a n c n' c' => Lib.run_eql_slice_nil w _ _ a n c n' c' Try.underlying42
  go_enter Try.func70, Try.ntmps70
  go_wp2
  go_ret
  exact ⟨rfl, rfl⟩
theorem clone_any (d : Part) (w : World) (h : d.ok w) (hm : d.l ≤ 1000000) : Calls Try.prog 70 #[.slice d.a d.l d.c] w (R1 w d.l d.z) := by
  obtain ⟨a, l, c, z⟩ := d
  cases a with
  | some ad => exact clone_some ad l c z w h.len hm h.rd
  | none =>
    have hc : c = 0 := h.nil rfl
    have hr := h.room
    have hl := h.len
    simp only at hr hl hc ⊢
    subst hc
    obtain rfl : l = 0 := by omega
    obtain rfl : z = [] := List.eq_nil_of_length_eq_zero hl
    refine (clone_none w).mono ?_
    rintro e w' ⟨rfl, rfl⟩
    exact ⟨none, 0, rfl, ⟨rfl, Nat.le_refl _, Nat.zero_le _, World.ownsRow_nil _ _ _ _⟩, Below.refl _ _⟩

set_option maxHeartbeats 1000000 in
/-- READ, of a right tape. -/
theorem read_any (t : Tap) (q : Int) (w : World) (h : t.ok w) (hg : goodK t.p t.ks = true) : Calls Try.prog 42 #[.agg #[.int .i64 t.p, .slice t.a t.n t.c], .int .i64 q] w (ReadPost w (rd t.ks q)) := by
  have hm := Nat.le_trans h.room h.cm
  have hce := fun V => cell_any t.p t.a t.n t.c q V hm
  unfold maxLen at hm
  have HC := Lib.hid (check_ok t _ (h.below ((Below.refl w.heap.size w).alloc (Nat.le_refl _) (.cells #[.int .i64 t.p, .slice t.a t.n t.c] 24))) hg)
  have HB0 := Lib.hid ((Below.refl w.heap.size w).alloc (Nat.le_refl _) (.cells #[.int .i64 t.p, .slice t.a t.n t.c] 24))
  have HX := Lib.hid (alloc24 w t.p t.a t.n t.c)
  have HX0 : Hid (∀ V, Below (w.heap.size + 1) (w.alloc (.cells #[.int .i64 t.p, .slice t.a t.n t.c] 24)) V → V.cell? ⟨w.heap.size, 0, none⟩ = some (.int .i64 t.p)) := fun V hV => by
    rw [hV.cell (p := ⟨w.heap.size, 0, none⟩) (by simp), World.cell?_alloc_mark]; rfl
  have HCS := Lib.hid h.cells; have HL := Lib.hid h.len
  have hall : ∀ k, (hk : k < t.cs.length) → t.cs[k].d.l ≤ 256 := fun k hk => by
    have h2 : good t.p t.cs = true := by rw [good_keys t.p h.cells]; exact hg
    exact okc_le ((good_at h2).2.2.2 k hk)
  have HALL := Lib.hid hall
  obtain ⟨p, a, n, c, cs⟩ := t
  simp only [Tap.ks] at hm hce HC HB0 HX HX0 HCS HL HALL ⊢
  clear h hg hall
  obtain ⟨r, hr⟩ : ∃ r, r = rd (keys cs) q := ⟨_, rfl⟩
  rw [← hr]
  by_cases hq : 0 ≤ q ∧ q < (n : Int)
  · rw [decide_eq_true hq] at hce
    have HCE := Lib.hid hce
    obtain ⟨k, rfl⟩ : ∃ k : Nat, q = k := ⟨q.toNat, by omega⟩
    have hlt1 : k < cs.length := by rw [HL.out]; omega
    have hrk : r = rc cs[k].key := by rw [hr]; unfold rd; rw [if_pos (by omega), Int.toNat_natCast, keys_get cs k hlt1]
    have hl := HALL.out k hlt1
    obtain ⟨b, o, rfl, c0', c1', c2', hd'⟩ := HCS.out.at hlt1
    obtain ⟨x, hx'⟩ : ∃ x, x = cs[k] := ⟨_, rfl⟩
    rw [← hx'] at c0' c1' c2' hrk hl hd'
    have hcell : ∀ V, Below w.heap.size w V → V.cell? ⟨b, o + k * 3, none⟩ = some (.int .i64 x.k) ∧ V.cell? ⟨b, o + k * 3 + 1, none⟩ = some (.slice x.d.a x.d.l x.d.c) ∧ V.cell? ⟨b, o + k * 3 + 2, none⟩ = some (.bool x.b) ∧ x.d.ok V := fun V hV =>
      ⟨by rw [hV.cell (cell_lt c0')]; exact c0', by rw [hV.cell (cell_lt c1')]; exact c1', by rw [hV.cell (cell_lt c2')]; exact c2', hd'.below hV⟩
    have HCL := Lib.hid hcell
    have i1 : (0 : Int) ≤ (k : Int) := by omega
    have i2 : (k : Int) < (n : Int) := by omega
    unfold rc Cel.key at hrk
    simp only at hrk
    clear hce hr hq hx' c0' c1' c2' hd' hcell
    have go1 : ∀ w1 : World, Below (w.heap.size + 1) (w.alloc (.cells #[.int .i64 p, .slice (some ⟨b, o, none⟩) n c] 24)) w1 → Below w.heap.size w w1 := fun w1 hB => HB0.out.trans (hB.mono (by simp))
    have HG := Lib.hid go1
    clear go1
    by_cases h2 : x.k = 2
    · have e3 : (x.k == 2) = true := beq_iff_eq.2 h2
      rw [if_pos h2] at hrk
      have HRK := Lib.hid hrk
      clear hrk h2
      go_enter Try.func42, Try.ntmps42
      go_wp2_with (first
        | (go_at_call 68; refine HC.out.mono ?_; rintro e w1 ⟨rfl, hB1⟩; have hx := HX.out _ (by simpa using hB1); have hy := HX0.out _ (by simpa using hB1); have HB1 := Lib.hid hB1; clear hB1)
        | (go_at_call 69; refine (HCE.out _).mono ?_; rintro e w2 ⟨rfl, hB2⟩; have HB2 := Lib.hid (HB1.out.trans (hB2.mono HB1.out.size)); clear hx hy; have hx := HX.out _ (by simpa using HB2.out); obtain ⟨c0, c1, c2, hd⟩ := HCL.out _ (HG.out _ (by simpa using HB2.out)); have HD := Lib.hid hd; clear hB2 hd))
      go_ret2
      have hw2 := HG.out _ (by simpa using HB2.out)
      exact ReadPost.none_ HRK.out (hw2.alloc hw2.size _)
    have e3 : (x.k == 2) = false := beq_eq_false_iff_ne.2 h2
    rw [if_neg h2] at hrk
    by_cases h3 : x.k = 3
    · have e4 : (x.k == 3) = true := beq_iff_eq.2 h3
      rw [if_pos (.inl h3)] at hrk
      have HRK := Lib.hid hrk
      clear hrk h2 h3
      go_enter Try.func42, Try.ntmps42
      go_wp2_with (first
        | (go_at_call 68; refine HC.out.mono ?_; rintro e w1 ⟨rfl, hB1⟩; have hx := HX.out _ (by simpa using hB1); have hy := HX0.out _ (by simpa using hB1); have HB1 := Lib.hid hB1; clear hB1)
        | (go_at_call 69; refine (HCE.out _).mono ?_; rintro e w2 ⟨rfl, hB2⟩; have HB2 := Lib.hid (HB1.out.trans (hB2.mono HB1.out.size)); clear hx hy; have hx := HX.out _ (by simpa using HB2.out); obtain ⟨c0, c1, c2, hd⟩ := HCL.out _ (HG.out _ (by simpa using HB2.out)); have HD := Lib.hid hd; clear hB2 hd))
      go_ret2
      have hw2 := HG.out _ (by simpa using HB2.out)
      exact ReadPost.none_ HRK.out (hw2.alloc hw2.size _)
    have e4 : (x.k == 3) = false := beq_eq_false_iff_ne.2 h3
    obtain ⟨bb, hbb⟩ : ∃ bb, bb = x.b := ⟨_, rfl⟩
    rw [← hbb] at HCL hrk
    clear hbb
    cases bb with
    | true =>
      rw [if_pos (.inr rfl)] at hrk
      have HRK := Lib.hid hrk
      clear hrk h2 h3
      go_enter Try.func42, Try.ntmps42
      go_wp2_with (first
        | (go_at_call 68; refine HC.out.mono ?_; rintro e w1 ⟨rfl, hB1⟩; have hx := HX.out _ (by simpa using hB1); have hy := HX0.out _ (by simpa using hB1); have HB1 := Lib.hid hB1; clear hB1)
        | (go_at_call 69; refine (HCE.out _).mono ?_; rintro e w2 ⟨rfl, hB2⟩; have HB2 := Lib.hid (HB1.out.trans (hB2.mono HB1.out.size)); clear hx hy; have hx := HX.out _ (by simpa using HB2.out); obtain ⟨c0, c1, c2, hd⟩ := HCL.out _ (HG.out _ (by simpa using HB2.out)); have HD := Lib.hid hd; clear hB2 hd))
      go_ret2
      have hw2 := HG.out _ (by simpa using HB2.out)
      exact ReadPost.none_ HRK.out (hw2.alloc hw2.size _)
    | false =>
      rw [if_neg (by simp [h3])] at hrk
      have HRK := Lib.hid hrk
      have HLL := Lib.hid hl
      clear hrk h2 h3 hl
      go_enter Try.func42, Try.ntmps42
      go_wp2_with (first
        | (go_at_call 68; refine HC.out.mono ?_; rintro e w1 ⟨rfl, hB1⟩; have hx := HX.out _ (by simpa using hB1); have hy := HX0.out _ (by simpa using hB1); have HB1 := Lib.hid hB1; clear hB1)
        | (go_at_call 69; refine (HCE.out _).mono ?_; rintro e w2 ⟨rfl, hB2⟩; have HB2 := Lib.hid (HB1.out.trans (hB2.mono HB1.out.size)); clear hx hy; have hx := HX.out _ (by simpa using HB2.out); obtain ⟨c0, c1, c2, hd⟩ := HCL.out _ (HG.out _ (by simpa using HB2.out)); have HD := Lib.hid hd; clear hB2 hd)
        | (go_at_call 70; fail))
      have hb3 : Below w2.heap.size w2 (w2.alloc (.cells #[.int .i64 x.k, .slice x.d.a x.d.l x.d.c, .bool false] 62)) := (Below.refl _ _).alloc (Nat.le_refl _) _
      refine (clone_any x.d _ (HD.out.below hb3) (by have := HLL.out; omega)).mono ?_
      rintro e w4 ⟨ko, kc, rfl, how, hB4⟩
      have hw2 := HG.out _ (by simpa using HB2.out)
      have hw4 := hw2.trans ((hb3.trans (hB4.mono hb3.size)).mono hw2.size)
      have hlen := HD.out.len
      have HE : Hid (ReadPost w r (.returned (.tuple #[.slice ko x.d.l kc, .int .i64 0])) w4) := by
        rw [HRK.out]
        refine ⟨ko, kc, by rw [hlen], ?_, hw4⟩
        rw [hlen]
        exact ⟨how.1, how.2.1, how.2.2.1, by
          have h4 := how.2.2.2
          refine ⟨h4.1, ?_⟩
          rcases h4.2 with q | ⟨g, cap, cur, q1, q2, q3⟩
          · exact .inl q
          · exact .inr ⟨g, cap, cur, q1, Nat.le_trans (Nat.le_trans hw2.size hb3.size) q2, q3⟩⟩
      clear how hB4 hw2 hw4 hlen hb3
      go_wp2
      go_ret2
      exact HE.out
  · rw [decide_eq_false hq] at hce
    have HCE := Lib.hid hce
    have hrk : r = (8, []) := by
      rw [hr]
      unfold rd
      by_cases h0 : 0 ≤ q
      · rw [if_pos h0, List.getElem?_eq_none (by rw [keys_len, HL.out]; omega)]
      · rw [if_neg h0]
    have HRK := Lib.hid hrk
    clear hce hr hrk hq
    go_enter Try.func42, Try.ntmps42
    go_wp2_with (first
      | (go_at_call 68; refine HC.out.mono ?_; rintro e w1 ⟨rfl, hB1⟩; have hx := HX.out _ (by simpa using hB1); have hy := HX0.out _ (by simpa using hB1); have HB1 := Lib.hid (HB0.out.trans (hB1.mono HB0.out.size)); clear hB1)
      | (go_at_call 69; refine (HCE.out _).mono ?_; rintro e w2 ⟨rfl, hB2⟩; have HB2 := Lib.hid (HB1.out.trans (hB2.mono HB1.out.size)); clear hB2))
    go_ret2
    exact ReadPost.none_ HRK.out HB2.out

end Go.Proofs.Ytmcbmemgeegodaa
