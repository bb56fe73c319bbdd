/-
  Tapes: Flip.
-/
import Derived.Test.YtojcinkchdhjpaaMedA
namespace Go.Proofs.Ytojcinkchdhjpaa
open Go.RowKit
set_option linter.unusedVariables false

/-- One bit of a cell, turned about. -/
def flipZ (z : List Int) (m : Nat) : List Int := z.set (m / 8) (bx (z.getD (m / 8) 0) ((2 ^ (m % 8) : Nat) : Int))
/-- Flip, by what the cells say. -/
def flipK (p : Int) (ks : List Key) (q bit : Int) : Int × Int × List Key :=
  if 0 ≤ q ∧ q < ks.length ∧ (ks[q.toNat]?.map (·.1)) = some 1 then
    (if 0 ≤ bit ∧ (bit.toNat / 8) < ((ks[q.toNat]?.map (·.2.1.length)).getD 0) then (0, p, ks.modify q.toNat fun x => (x.1, flipZ x.2.1 bit.toNat, x.2.2)) else (1, 0, []))
  else (8, 0, [])
theorem keys_mod (cs : List Cel) (z : List Int) : ∀ k, (h : k < cs.length) → keys (cs.set k ⟨cs[k].k, ⟨cs[k].d.a, cs[k].d.l, cs[k].d.c, z⟩, cs[k].b⟩) = (keys cs).modify k fun x => (x.1, z, x.2.2) := by
  induction cs with
  | nil => intro k h; exact absurd h (Nat.not_lt_zero _)
  | cons c cs ih =>
    intro k h
    cases k with
    | zero => simp [keys, Cel.key]
    | succ k =>
      have := ih k (by simpa using h)
      simp only [keys] at this ⊢
      simp [this]
theorem ccs_same (cs : List Cel) (z : List Int) : ∀ k, (h : k < cs.length) → ccs (cs.set k ⟨cs[k].k, ⟨cs[k].d.a, cs[k].d.l, cs[k].d.c, z⟩, cs[k].b⟩) = ccs cs := by
  induction cs with
  | nil => intro k h; exact absurd h (Nat.not_lt_zero _)
  | cons c cs ih =>
    intro k h
    have e : ∀ (x : Cel) (l : List Cel), ccs (x :: l) = .int .i64 x.k :: .slice x.d.a x.d.l x.d.c :: .bool x.b :: ccs l := fun x l => rfl
    cases k with
    | zero => simp [e]
    | succ k =>
      have := ih k (by simpa using h)
      simp [e, this]
/-- A byte of one's own stored: the part's bytes. -/
theorem Own1.put {w : World} {gd l c i : Nat} {z : List Int} {v : Int} (h : Own1 w ⟨some ⟨gd, 0, none⟩, l, c, z⟩) (hi : i < l) (hv : 0 ≤ v ∧ v ≤ 255) : Own1 (w.setCell ⟨gd, i, none⟩ (.int .u8 v)) ⟨some ⟨gd, 0, none⟩, l, c, z.set i v⟩ := by
  obtain ⟨hok, hs⟩ := h
  rcases hs with e | ⟨g, cur, e, hh⟩
  · cases e
  · simp only [Option.some.injEq, Addr.mk.injEq, and_true] at e
    subst e
    have hb := Go.Joins.block_setCell (i := i) hh (.int .u8 v)
    have hlen := hok.len
    simp only at hlen
    refine ⟨⟨?_, by simp [hlen], ?_, hok.small, (fun h => by cases h), hok.room⟩, .inr ⟨gd, _, rfl, hb⟩⟩
    · obtain ⟨b, o, ea, hc⟩ := hok.rd.at (by show 0 < z.length; omega)
      simp only [Option.some.injEq, Addr.mk.injEq, and_true] at ea
      obtain ⟨rfl, rfl⟩ := ea
      refine .inr ⟨gd, 0, rfl, fun j hj => ?_⟩
      have hj' : j < z.length := by simpa using hj
      have hcj := hc j hj'
      rw [Nat.zero_add] at hcj ⊢
      by_cases ej : i = j
      · subst ej
        have hsz : i < cur.size := by
          simp only [World.cell?, hh] at hcj
          exact (Array.getElem?_eq_some_iff.1 (by simpa using hcj)).1
        simp only [World.cell?, hb]
        simp [List.getD, hj', hsz]
      · have hcj2 : cur[j]? = some (.int .u8 (z.getD j 0)) := by simpa [World.cell?, hh] using hcj
        simp only [World.cell?, hb]
        have : (cur.setIfInBounds i (.int .u8 v))[j]? = cur[j]? := by rw [Array.getElem?_setIfInBounds, if_neg ej]
        simp only [List.getD, List.getElem?_set_ne ej] at hcj2 ⊢
        simpa [this] using hcj2
    · intro j hj
      have hj' : j < z.length := by simpa using hj
      have := hok.bts j hj'
      by_cases ej : i = j
      · subst ej
        simpa [List.getD, hj'] using hv
      · simpa [List.getD, List.getElem?_set_ne ej] using this

theorem flipK_at (p : Int) (ks : List Key) (k : Nat) (bit : Int) {a : Int} {z : List Int} {b : Bool} (h : ks[k]? = some (a, z, b)) :
    flipK p ks k bit = if a = 1 then (if 0 ≤ bit ∧ bit.toNat / 8 < z.length then (0, p, ks.modify k fun x => (x.1, flipZ x.2.1 bit.toNat, x.2.2)) else (1, 0, [])) else (8, 0, []) := by
  have hk : (k : Int) < ks.length := by have := (List.getElem?_eq_some_iff.1 h).1; omega
  unfold flipK
  simp only [Int.toNat_natCast, h, Option.map_some, Option.getD_some, Option.some.injEq]
  by_cases ha : a = 1
  · rw [if_pos ⟨by omega, hk, ha⟩, if_pos ha]
  · rw [if_neg (fun hh => ha hh.2.2), if_neg ha]
theorem flipK_out (p : Int) (ks : List Key) (q bit : Int) (h : ¬ (0 ≤ q ∧ q < (ks.length : Int))) : flipK p ks q bit = (8, 0, []) := by
  unfold flipK
  rw [if_neg (fun hh => h ⟨hh.1, hh.2.1⟩)]
set_option maxHeartbeats 4000000 in
/-- FLIP, of a right tape: where it is refused. -/
theorem flip_no (t : Tap) (q bit : Int) (w : World) (h : t.ok w) (hg : goodK t.p t.ks = true) (hn : (flipK t.p t.ks q bit).1 ≠ 0) (hbm : bit ≤ 9223372036854775807) : Calls Try.prog 20 #[.agg #[.int .i64 t.p, .slice t.a t.n t.c], .int .i64 q, .int .i64 bit] w (MPost w (flipK t.p t.ks q bit)) := by
  obtain ⟨s1, s2, s3, s4, s5, s6⟩ := h.sizes hg
  have hck := fun V (hV : Below w.heap.size w V) => check_ok t V (h.below hV) hg
  have hce := fun V => cell_any t.p t.a t.n t.c q V (Nat.le_trans h.room h.cm)
  obtain ⟨r, hr⟩ : ∃ r, r = flipK t.p t.ks q bit := ⟨_, rfl⟩
  rw [← hr] at hn ⊢
  by_cases hq : 0 ≤ q ∧ q < (t.n : Int)
  · simp only [decide_eq_true hq] at hce
    obtain ⟨k, rfl⟩ : ∃ k : Nat, q = k := ⟨q.toNat, by omega⟩
    have hlt : k < t.cs.length := by rw [h.len]; omega
    have hkk : t.ks[k]? = some (t.cs[k].k, t.cs[k].d.z, t.cs[k].b) := keys_get t.cs k hlt
    rw [flipK_at t.p t.ks k bit hkk] at hr
    obtain ⟨b, o, ha, c0', c1', c2', hd'⟩ := h.cells.at hlt
    obtain ⟨x, hx⟩ : ∃ x, x = t.cs[k] := ⟨_, rfl⟩
    rw [← hx] at c0' c1' c2' hd' hr
    have hcl : ∀ V, Below w.heap.size w V → V.cell? ⟨b, o + k * 3, none⟩ = some (.int .i64 x.k) ∧ V.cell? ⟨b, o + k * 3 + 1, none⟩ = some (.slice x.d.a x.d.l x.d.c) ∧ True := fun V hV =>
      ⟨by rw [hV.cell (cell_lt c0')]; exact c0', by rw [hV.cell (cell_lt c1')]; exact c1', trivial⟩
    have hxl := hd'.len
    obtain ⟨p, a, n, c, cs⟩ := t
    simp only at ha
    subst ha
    simp only at hck hce hr hq hn ⊢
    have i1 : (0 : Int) ≤ (k : Int) := by omega
    have i2 : (k : Int) < (n : Int) := by omega
    have HC := Lib.hid hck; have HE := Lib.hid hce; have HCL := Lib.hid hcl
    clear h hg s1 s2 s3 s4 s5 s6 hck hce hcl hx c0' c1' c2' hd' hlt hkk
    by_cases hk1 : x.k = 1
    · have e1 : (x.k != 1) = false := by simp [hk1]
      rw [if_pos hk1] at hr
      by_cases hb0 : bit < 0
      · have e2 : decide (bit < 0) = true := decide_eq_true hb0
        rw [if_neg (by omega)] at hr
        have HR := Lib.hid hr
        clear hr hq hk1 hb0 hxl hn

        go_enter Try.func20, Try.ntmps20
        go_wp2_with (go_at_call 21; fail)
        obtain ⟨g1, hg1⟩ : ∃ g1, g1 = w.heap.size + 1 := ⟨_, rfl⟩
        rw [← hg1]
        generalize hW0 : World.alloc _ (.cells #[.int .i64 0, .slice none 0 0] 24) = W0
        obtain ⟨hB0, x0, x1⟩ := two' hW0 hg1
        have hgn : w.heap.size ≤ g1 := by omega
        clear hW0 hg1
        refine (HC.out W0 hB0).mono ?_
        rintro e w1 ⟨rfl, hB1⟩
        have hB01 := hB0.trans (hB1.mono hB0.size)
        have X0 := Lib.hid (cells2at x0 hB1)
        obtain ⟨y0, y1, _⟩ := cells2 X0.out
        have X1 := Lib.hid (cells2at x1 hB1)
        have HB1 := Lib.hid hB01
        clear hB0 x0 x1 hB1 hB01
        go_wp2_with (go_at_call 44; fail)
        refine (HE.out w1).mono ?_
        rintro e w2 ⟨rfl, hB2⟩
        have hB02 := HB1.out.trans (hB2.mono HB1.out.size)
        clear y0 y1
        obtain ⟨y0, y1, _⟩ := cells2 (cells2at X0.out hB2)
        have x2 := cells2at X1.out hB2
        obtain ⟨z0, z1, zf⟩ := cells2 x2
        obtain ⟨f0, f1⟩ := store2 x2 (.int .i64 0) (.slice none 0 0)
        have HB2 := Lib.hid (below2 hB02 hgn (.int .i64 0) (.slice none 0 0))
        obtain ⟨c0, c1, _⟩ := HCL.out w2 hB02
        clear x2 hB2 hB02
        go_wp2
        refine bodyPost_ret (v := .tuple #[.agg #[.int .i64 0, .slice none 0 0], .int .i64 1]) (by simp [results, Try.results20, go_sem, f0, f1]) rfl ?_
        exact MPost.none_ HR.out HB2.out

      · have e2 : decide (bit < 0) = false := decide_eq_false hb0
        obtain ⟨m, rfl⟩ : ∃ m : Nat, bit = m := ⟨bit.toNat, by omega⟩
        have hm63 : m ≤ 2 ^ 63 - 1 := by omega
        rw [Int.toNat_natCast, hxl] at hr
        by_cases hml : m / 8 < x.d.l
        · rw [if_pos ⟨by omega, hml⟩] at hr
          rw [hr] at hn
          exact absurd rfl hn
        · rw [if_neg (by omega)] at hr
          have e3 : decide ((x.d.l : Int) ≤ (m : Int) / 8) = true := decide_eq_true (by omega)
          have e3' : decide (x.d.l ≤ m / 8) = true := decide_eq_true (by omega)
          have HR := Lib.hid hr
          clear hr hq hk1 hb0 hxl hn hml

          go_enter Try.func20, Try.ntmps20
          go_wp2_with (go_at_call 21; fail)
          obtain ⟨g1, hg1⟩ : ∃ g1, g1 = w.heap.size + 1 := ⟨_, rfl⟩
          rw [← hg1]
          generalize hW0 : World.alloc _ (.cells #[.int .i64 0, .slice none 0 0] 24) = W0
          obtain ⟨hB0, x0, x1⟩ := two' hW0 hg1
          have hgn : w.heap.size ≤ g1 := by omega
          clear hW0 hg1
          refine (HC.out W0 hB0).mono ?_
          rintro e w1 ⟨rfl, hB1⟩
          have hB01 := hB0.trans (hB1.mono hB0.size)
          have X0 := Lib.hid (cells2at x0 hB1)
          obtain ⟨y0, y1, _⟩ := cells2 X0.out
          have X1 := Lib.hid (cells2at x1 hB1)
          have HB1 := Lib.hid hB01
          clear hB0 x0 x1 hB1 hB01
          go_wp2_with (go_at_call 44; fail)
          refine (HE.out w1).mono ?_
          rintro e w2 ⟨rfl, hB2⟩
          have hB02 := HB1.out.trans (hB2.mono HB1.out.size)
          clear y0 y1
          obtain ⟨y0, y1, _⟩ := cells2 (cells2at X0.out hB2)
          have x2 := cells2at X1.out hB2
          obtain ⟨z0, z1, zf⟩ := cells2 x2
          obtain ⟨f0, f1⟩ := store2 x2 (.int .i64 0) (.slice none 0 0)
          have HB2 := Lib.hid (below2 hB02 hgn (.int .i64 0) (.slice none 0 0))
          obtain ⟨c0, c1, _⟩ := HCL.out w2 hB02
          clear x2 hB2 hB02
          go_wp2
          refine bodyPost_ret (v := .tuple #[.agg #[.int .i64 0, .slice none 0 0], .int .i64 1]) (by simp [results, Try.results20, go_sem, f0, f1]) rfl ?_
          exact MPost.none_ HR.out HB2.out

    · have e1 : (x.k != 1) = true := by simp [hk1]
      rw [if_neg hk1] at hr
      have HR := Lib.hid hr
      clear hr hq hk1 hxl hn

      go_enter Try.func20, Try.ntmps20
      go_wp2_with (go_at_call 21; fail)
      obtain ⟨g1, hg1⟩ : ∃ g1, g1 = w.heap.size + 1 := ⟨_, rfl⟩
      rw [← hg1]
      generalize hW0 : World.alloc _ (.cells #[.int .i64 0, .slice none 0 0] 24) = W0
      obtain ⟨hB0, x0, x1⟩ := two' hW0 hg1
      have hgn : w.heap.size ≤ g1 := by omega
      clear hW0 hg1
      refine (HC.out W0 hB0).mono ?_
      rintro e w1 ⟨rfl, hB1⟩
      have hB01 := hB0.trans (hB1.mono hB0.size)
      have X0 := Lib.hid (cells2at x0 hB1)
      obtain ⟨y0, y1, _⟩ := cells2 X0.out
      have X1 := Lib.hid (cells2at x1 hB1)
      have HB1 := Lib.hid hB01
      clear hB0 x0 x1 hB1 hB01
      go_wp2_with (go_at_call 44; fail)
      refine (HE.out w1).mono ?_
      rintro e w2 ⟨rfl, hB2⟩
      have hB02 := HB1.out.trans (hB2.mono HB1.out.size)
      clear y0 y1
      obtain ⟨y0, y1, _⟩ := cells2 (cells2at X0.out hB2)
      have x2 := cells2at X1.out hB2
      obtain ⟨z0, z1, zf⟩ := cells2 x2
      obtain ⟨f0, f1⟩ := store2 x2 (.int .i64 0) (.slice none 0 0)
      have HB2 := Lib.hid (below2 hB02 hgn (.int .i64 0) (.slice none 0 0))
      obtain ⟨c0, c1, _⟩ := HCL.out w2 hB02
      clear x2 hB2 hB02
      go_wp2
      refine bodyPost_ret (v := .tuple #[.agg #[.int .i64 0, .slice none 0 0], .int .i64 8]) (by simp [results, Try.results20, go_sem, f0, f1]) rfl ?_
      exact MPost.none_ HR.out HB2.out

  · rw [flipK_out t.p t.ks q bit (by rw [s5]; exact hq)] at hr
    simp only [decide_eq_false hq] at hce
    obtain ⟨p, a, n, c, cs⟩ := t
    simp only at hck hce hr ⊢
    have HC := Lib.hid hck; have HE := Lib.hid hce; have HR := Lib.hid hr
    clear h hg s1 s2 s3 s4 s5 s6 hck hce hr hq hn

    go_enter Try.func20, Try.ntmps20
    go_wp2_with (go_at_call 21; fail)
    obtain ⟨g1, hg1⟩ : ∃ g1, g1 = w.heap.size + 1 := ⟨_, rfl⟩
    rw [← hg1]
    generalize hW0 : World.alloc _ (.cells #[.int .i64 0, .slice none 0 0] 24) = W0
    obtain ⟨hB0, x0, x1⟩ := two' hW0 hg1
    have hgn : w.heap.size ≤ g1 := by omega
    clear hW0 hg1
    refine (HC.out W0 hB0).mono ?_
    rintro e w1 ⟨rfl, hB1⟩
    have hB01 := hB0.trans (hB1.mono hB0.size)
    have X0 := Lib.hid (cells2at x0 hB1)
    obtain ⟨y0, y1, _⟩ := cells2 X0.out
    have X1 := Lib.hid (cells2at x1 hB1)
    have HB1 := Lib.hid hB01
    clear hB0 x0 x1 hB1 hB01
    go_wp2_with (go_at_call 44; fail)
    refine (HE.out w1).mono ?_
    rintro e w2 ⟨rfl, hB2⟩
    have hB02 := HB1.out.trans (hB2.mono HB1.out.size)
    clear y0 y1
    obtain ⟨y0, y1, _⟩ := cells2 (cells2at X0.out hB2)
    have x2 := cells2at X1.out hB2
    obtain ⟨z0, z1, zf⟩ := cells2 x2
    obtain ⟨f0, f1⟩ := store2 x2 (.int .i64 0) (.slice none 0 0)
    have HB2 := Lib.hid (below2 hB02 hgn (.int .i64 0) (.slice none 0 0))
    clear x2 hB2 hB02
    go_wp2
    refine bodyPost_ret (v := .tuple #[.agg #[.int .i64 0, .slice none 0 0], .int .i64 8]) (by simp [results, Try.results20, go_sem, f0, f1]) rfl ?_
    exact MPost.none_ HR.out HB2.out


set_option maxHeartbeats 4000000 in
/-- FLIP, of a right tape: where it is done. -/
theorem flip_yes (t : Tap) (k m : Nat) (w : World) (h : t.ok w) (hg : goodK t.p t.ks = true) (hk : k < t.cs.length) (hk1 : t.cs[k].k = 1) (hm : m / 8 < t.cs[k].d.l) : Calls Try.prog 20 #[.agg #[.int .i64 t.p, .slice t.a t.n t.c], .int .i64 k, .int .i64 m] w (MPost w (0, t.p, t.ks.modify k fun x => (x.1, flipZ x.2.1 m, x.2.2))) := by
  obtain ⟨s1, s2, s3, s4, s5, s6⟩ := h.sizes hg
  have hck := fun V (hV : Below w.heap.size w V) => check_ok t V (h.below hV) hg
  have hkn : k < t.n := by rw [← h.len]; exact hk
  have hce := fun V => cell_any t.p t.a t.n t.c k V (Nat.le_trans h.room h.cm)
  simp only [decide_eq_true (show (0 : Int) ≤ (k : Int) ∧ (k : Int) < (t.n : Int) by omega)] at hce
  have hfi := fun V (hV : Below w.heap.size w V) => first_all t t.n V (h.below hV) s6 (Nat.le_refl _) (by omega)
  have htk : t.ks.take t.n = t.ks := List.take_of_length_le (by rw [s5]; exact Nat.le_refl _)
  rw [htk] at hfi
  have hkk : t.ks[k]? = some (t.cs[k].k, t.cs[k].d.z, t.cs[k].b) := keys_get t.cs k hk
  obtain ⟨b, o, ha, c0', c1', c2', hd'⟩ := h.cells.at hk
  have hl6 := s6 k hk
  obtain ⟨x, hx⟩ : ∃ x, x = t.cs[k] := ⟨_, rfl⟩
  rw [← hx] at c0' c1' c2' hd' hkk hk1 hm hl6
  rw [hk1] at c0'
  have hcl : ∀ V, Below w.heap.size w V → V.cell? ⟨b, o + k * 3, none⟩ = some (.int .i64 1) ∧ V.cell? ⟨b, o + k * 3 + 1, none⟩ = some (.slice x.d.a x.d.l x.d.c) := fun V hV =>
    ⟨by rw [hV.cell (cell_lt c0')]; exact c0', by rw [hV.cell (cell_lt c1')]; exact c1'⟩
  have hxl := hd'.len
  obtain ⟨p, a, n, c, cs⟩ := t
  simp only at ha hkn hl6
  subst ha
  simp only [Tap.ks] at hck hce hfi hkk ⊢
  have i1 : (0 : Int) ≤ (k : Int) := by omega
  have i2 : (k : Int) < (n : Int) := by omega
  have e2 : decide ((m : Int) < 0) = false := decide_eq_false (by omega)
  have e3 : decide ((x.d.l : Int) ≤ (m : Int) / 8) = false := decide_eq_false (by omega)
  have e3' : decide (x.d.l ≤ m / 8) = false := decide_eq_false (by omega)
  have j1 : (0 : Int) ≤ (m : Int) / 8 := by omega
  have j2 : (m : Int) / 8 < (x.d.l : Int) := by omega
  have hm63 : m ≤ 2 ^ 63 - 1 := by omega
  have HC := Lib.hid hck; have HE := Lib.hid hce; have HCL := Lib.hid hcl; have HF := Lib.hid hfi; have HKK := Lib.hid hkk; have HXL := Lib.hid hxl; have HM := Lib.hid hm; have HDB := Lib.hid hd'.bts
  clear h hg s1 s2 s3 s4 s5 s6 hck hce hcl hfi htk hkk hx c0' c1' c2' hd' hk hk1 hxl hm
  go_enter Try.func20, Try.ntmps20
  go_wp2_with (go_at_call 21; fail)
  obtain ⟨g1, hg1⟩ : ∃ g1, g1 = w.heap.size + 1 := ⟨_, rfl⟩
  rw [← hg1]
  generalize hW0 : World.alloc _ (.cells #[.int .i64 0, .slice none 0 0] 24) = W0
  obtain ⟨hB0, x0, x1⟩ := two' hW0 hg1
  have hgn : w.heap.size ≤ g1 := by omega
  clear hW0 hg1
  refine (HC.out W0 hB0).mono ?_
  rintro e w1 ⟨rfl, hB1⟩
  have hB01 := hB0.trans (hB1.mono hB0.size)
  have X0 := Lib.hid (cells2at x0 hB1)
  obtain ⟨y0, y1, _⟩ := cells2 X0.out
  have X1 := Lib.hid (cells2at x1 hB1)
  have HB1 := Lib.hid hB01
  clear hB0 x0 x1 hB1 hB01
  go_wp2_with (go_at_call 44; fail)
  refine (HE.out w1).mono ?_
  rintro e w2 ⟨rfl, hB2⟩
  have hB02 := HB1.out.trans (hB2.mono HB1.out.size)
  have X2 := Lib.hid (cells2at X1.out hB2)
  clear y0 y1
  obtain ⟨y0, y1, _⟩ := cells2 (cells2at X0.out hB2)
  obtain ⟨c0, c1⟩ := HCL.out w2 hB02
  have HB2 := Lib.hid hB02
  clear hB2 hB02
  go_wp2_with (go_at_call 42; fail)
  refine (HF.out w2 HB2.out).mono ?_
  rintro e w3 ⟨ko, kc, cs3, rfl, hO, hk, hB3, hap⟩
  obtain ⟨gm, rfl⟩ : ∃ gm, ko = some ⟨gm, 0, none⟩ := by
    rcases hO.row.2 with ⟨_, h0⟩ | ⟨g, c, cur, e, _⟩
    · omega
    · simp only [Value.slice.injEq] at e; exact ⟨g, e.1⟩
  obtain ⟨W4, hW4⟩ : ∃ W4, W4 = w3.alloc (.cells #[.int .i64 p, .slice (some ⟨gm, 0, none⟩) n kc] 24) := ⟨_, rfl⟩
  obtain ⟨g6, hg6⟩ : ∃ g6, g6 = w3.heap.size := ⟨_, rfl⟩
  have hb4 : Below w3.heap.size w3 W4 := by rw [hW4]; exact (Below.refl _ _).alloc (Nat.le_refl _) _
  have hy6 : W4.heap[g6]? = some (.cells #[.int .i64 p, .slice (some ⟨gm, 0, none⟩) n kc] 24 (0, 0)) := by rw [hW4, hg6]; exact new_cell _ _ _
  have hx1 : W4.heap[g1]? = some (.cells #[.int .i64 0, .slice none 0 0] 24 (0, 0)) := cells2at (cells2at X2.out hB3) hb4
  have h24 := hB3.trans (hb4.mono hB3.size)
  have hO4 := (hO.below hb4).low HB2.out.size
  have hk3 : k < cs3.length := by rw [hO4.len]; exact hkn
  -- the cell itself
  have hk3y := keys_get cs3 k hk3
  rw [hk, HKK.out] at hk3y
  have hz3 : cs3[k].d.z = x.d.z := by
    have := Option.some.inj hk3y
    have h2 := congrArg (fun y : Key => y.2.1) this
    exact h2.symm
  have hown := hO4.own k hk3
  have hl3 : cs3[k].d.l = x.d.l := by rw [← hown.1.1.len, hz3, HXL.out]
  obtain ⟨gd, hgd⟩ : ∃ gd, cs3[k].d.a = some ⟨gd, 0, none⟩ := by
    rcases hown.1.2 with e | ⟨g, _, e, _⟩
    · rcases hown.1.1.rd with h0 | ⟨b, o, e2, _⟩
      · have := HM.out; rw [hz3] at h0; have h2 := HXL.out; rw [h0] at h2; simp at h2; omega
      · rw [e] at e2; cases e2
    · exact ⟨g, e⟩
  have hrow := hO4.row
  have hcell : W4.cell? ⟨gm, k * 3 + 1, none⟩ = some (.slice (some ⟨gd, 0, none⟩) x.d.l cs3[k].d.c) := by
    rw [hrow.cellAt (k * 3 + 1) (by omega), (ccs_get cs3 k hk3).2.1, hgd, hl3]
  obtain ⟨ch, hch⟩ : ∃ ch, ch = x.d.z.getD (m / 8) 0 := ⟨_, rfl⟩
  have hbyte : W4.cell? ⟨gd, m / 8, none⟩ = some (.int .u8 ch) := by
    obtain ⟨b, o, e, hc⟩ := hown.1.1.rd.at (by rw [hz3, HXL.out]; have := HM.out; omega)
    rw [hgd] at e; cases e
    have := hc (m / 8) (by rw [hz3, HXL.out]; exact HM.out)
    rw [Nat.zero_add, hz3] at this
    rw [this, hch]
  have hcb : 0 ≤ ch ∧ ch ≤ 255 := by rw [hch]; exact HDB.out _ (by rw [HXL.out]; exact HM.out)
  have hpb : (2 ^ (m % 8) : Nat) ≤ 2 ^ 7 := Nat.pow_le_pow_right (by decide) (by omega)
  have hpb2 : (0 : Int) ≤ ((2 ^ (m % 8) : Nat) : Int) ∧ ((2 ^ (m % 8) : Nat) : Int) ≤ 255 := by
    have h3 : ((2 ^ (m % 8) : Nat) : Int) ≤ ((2 ^ 7 : Nat) : Int) := Int.ofNat_le.2 hpb
    exact ⟨Int.natCast_nonneg _, Int.le_trans h3 (by decide)⟩
  have hxr : Go.bits .xor .u8 ch (2 ^ (m % 8) % 256) = bx ch ((2 ^ (m % 8) : Nat) : Int) := by
    rw [pow_byte _ (Nat.mod_lt _ (by decide))]
    exact xor_u8 _ _ hcb.1 hcb.2 hpb2.1 hpb2.2
  have hvb := bx_bd ch _ hcb.1 hcb.2 hpb2.1 hpb2.2
  obtain ⟨nb, hnb⟩ : ∃ nb, nb = bx ch ((2 ^ (m % 8) : Nat) : Int) := ⟨_, rfl⟩
  rw [← hnb] at hxr hvb
  obtain ⟨curm, hcurm⟩ := row_heapN hrow
  obtain ⟨curd, hcurd⟩ : ∃ cur, W4.heap[gd]? = some (.cells cur 5 (0, 0)) := by
    rcases hown.1.2 with e | ⟨g, cur, e, hh⟩
    · rw [e] at hgd; cases hgd
    · rw [hgd] at e; cases e; exact ⟨cur, hh⟩
  have hfz : W4.frozen? ⟨gd, m / 8, none⟩ = false := by simp [World.frozen?, hcurd]
  have ng6 : g6 ≠ gd := by
    rintro rfl
    rw [hy6] at hcurd
    simp only [Option.some.injEq, Obj.cells.injEq] at hcurd
    exact absurd hcurd.2.1 (by decide)
  have ng1 : g1 ≠ gd := by
    rintro rfl
    rw [hx1] at hcurd
    simp only [Option.some.injEq, Obj.cells.injEq] at hcurd
    exact absurd hcurd.2.1 (by decide)
  have ngm : gm ≠ gd := by
    rintro rfl
    rw [hcurm] at hcurd
    simp only [Option.some.injEq, Obj.cells.injEq] at hcurd
    exact absurd hcurd.2.1 (by decide)
  have hgdn : w.heap.size ≤ gd := hown.2 _ hgd
  obtain ⟨a0, a1, _⟩ := cells2 hy6
  have hb24 := HB2.out.trans (h24.mono HB2.out.size)
  obtain ⟨W5, hW5⟩ : ∃ W5, W5 = W4.setCell ⟨gd, m / 8, none⟩ (.int .u8 nb) := ⟨_, rfl⟩
  have hy5 : W5.heap[g6]? = some (.cells #[.int .i64 p, .slice (some ⟨gm, 0, none⟩) n kc] 24 (0, 0)) := by rw [hW5, set_far _ _ _ _ _ ng6]; exact hy6
  have hz5 : W5.heap[g1]? = some (.cells #[.int .i64 0, .slice none 0 0] 24 (0, 0)) := by rw [hW5, set_far _ _ _ _ _ ng1]; exact hx1
  obtain ⟨cs5, hcs5⟩ : ∃ cs5, cs5 = cs3.set k ⟨cs3[k].k, ⟨cs3[k].d.a, cs3[k].d.l, cs3[k].d.c, x.d.z.set (m / 8) nb⟩, cs3[k].b⟩ := ⟨_, rfl⟩
  have hO5 : OCs W5 w.heap.size (some ⟨gm, 0, none⟩) n kc cs5 := by
    refine ⟨by rw [hcs5, List.length_set]; exact hO4.len, hO4.room, hO4.cm, ?_, fun i hi => ?_⟩
    · rw [hcs5, ccs_same cs3 _ k hk3, hW5]
      exact own_heap hrow fun g e => by
        have : g = gm := by simpa [Value.ownBlock] using e.symm
        subst this
        exact set_far _ _ _ _ _ ngm
    · have hi' : i < cs3.length := by rw [hcs5] at hi; simpa using hi
      by_cases e : k = i
      · subst e
        have hd : cs5[k].d = ⟨cs3[k].d.a, cs3[k].d.l, cs3[k].d.c, x.d.z.set (m / 8) nb⟩ := by simp [hcs5]
        rw [hd, hW5]
        refine ⟨?_, hown.2⟩
        have h1 := hown.1
        have hpe : cs3[k].d = ⟨some ⟨gd, 0, none⟩, cs3[k].d.l, cs3[k].d.c, x.d.z⟩ := by
          rw [← hgd, ← hz3]
        rw [hpe] at h1
        rw [hgd]
        exact h1.put (by rw [hl3]; exact HM.out) hvb
      · have hd : cs5[i].d = cs3[i].d := by
          simp only [hcs5, List.getElem_set, if_neg e]
        rw [hd, hW5]
        have h1 := hO4.own i hi'
        refine h1.set gd _ _ fun g eg hgg => ?_
        subst hgg
        rcases Nat.lt_or_ge i k with hlt | hge
        · have := hap i k hi' hk3 hlt _ _ eg hgd; simp at this
        · have := hap k i hk3 hi' (by omega) _ _ hgd eg; simp at this
  have hb5 : Below w.heap.size w W5 := by rw [hW5]; exact hb24.setCell hgdn _
  have hkeys5 : keys cs5 = (keys cs).modify k fun x => (x.1, flipZ x.2.1 m, x.2.2) := by
    rw [hcs5, keys_mod cs3 _ k hk3, hk]
    apply List.ext_getElem?
    intro i
    rw [List.getElem?_modify, List.getElem?_modify]
    by_cases e : k = i
    · subst e
      simp only [if_pos, HKK.out]
      show some (x.k, x.d.z.set (m / 8) nb, x.b) = some (x.k, flipZ x.d.z m, x.b)
      unfold flipZ
      rw [← hch, ← hnb]
    · simp only [if_neg e]
  obtain ⟨f0, f1⟩ := store2 hz5 (.int .i64 p) (.slice (some ⟨gm, 0, none⟩) n kc)
  obtain ⟨b0, b1, _⟩ := cells2 hy5
  obtain ⟨z0, z1, zf⟩ := cells2 hz5
  have HO6 := Lib.hid (hO5.set2 hz5 (.int .i64 p) (.slice (some ⟨gm, 0, none⟩) n kc) (by decide) (by decide))
  have HB6 := Lib.hid (below2 hb5 hgn (.int .i64 p) (.slice (some ⟨gm, 0, none⟩) n kc))
  have HK := Lib.hid hkeys5
  generalize hcc : cs3[k].d.c = cc at hcell
  have HW5 := Lib.hid hW5
  subst hW4
  subst hg6
  clear hO hk hB3 hb4 hy6 hx1 h24 hO4 hrow hcurm hcurd ng6 ng1 ngm hgdn hb24 hy5 hz5 hO5 hb5 y0 y1 hap hk3y hz3 hown hl3 hgd hch hcb hpb hpb2 hvb hnb hcs5 hkeys5 hcc hk3 hW5
  go_wp2
  go_region
  rw [← HW5.out]
  clear hxr hcell hbyte hfz a0 a1
  go_wp2
  refine bodyPost_ret (v := .tuple #[.agg #[.int .i64 p, .slice (some ⟨gm, 0, none⟩) n kc], .int .i64 0]) (by simp [results, Try.results20, go_sem, f0, f1]) rfl ?_
  exact ⟨some ⟨gm, 0, none⟩, n, kc, cs5, rfl, HO6.out.below (Below.refl _ _).drew, HK.out, HB6.out.drew⟩
end Go.Proofs.Ytojcinkchdhjpaa
