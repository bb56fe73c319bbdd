/-
  Tapes, of the document: Flip.
-/
import Derived.Test.YtojcinkchdhjpaaMedH
namespace Go.Proofs.Ytojcinkchdhjpaa
open Go.RowKit
set_option linter.unusedVariables false

set_option maxHeartbeats 4000000 in
/-- FLIP, OF THE DOCUMENT: where it is refused. -/
theorem rflip_no (t : Tap) (q bit : Int) (w : World) (h : t.ok w) (hg : goodK t.p t.ks = true) (hn : (flipK t.p t.ks q bit).1 ≠ 0) : Calls Try.prog 34 #[.agg #[.int .i64 t.p, .slice t.a t.n t.c], .int .i64 q, .int .i64 bit] w (MPost w (flipK t.p t.ks q bit)) := by
  obtain ⟨s1, s2, s3, s4, s5, s6⟩ := h.sizes hg
  obtain ⟨r, hr⟩ : ∃ r, r = flipK t.p t.ks q bit := ⟨_, rfl⟩
  rw [← hr] at hn ⊢
  by_cases hq : 0 ≤ q ∧ q < (t.n : Int)
  · obtain ⟨k, rfl⟩ : ∃ k : Nat, q = k := ⟨q.toNat, by omega⟩
    have hlt : k < t.cs.length := by rw [h.len]; omega
    have hl6 := s6 k hlt
    have hkk : t.ks[k]? = some (t.cs[k].k, t.cs[k].d.z, t.cs[k].b) := keys_get t.cs k hlt
    rw [flipK_at t.p t.ks k bit hkk] at hr
    obtain ⟨b, o, ha, c0', c1', c2', hd'⟩ := h.cells.at hlt
    obtain ⟨x, hx⟩ : ∃ x, x = t.cs[k] := ⟨_, rfl⟩
    rw [← hx] at c0' c1' c2' hd' hr hl6
    have hxl := hd'.len
    obtain ⟨p, a, n, c, cs⟩ := t
    simp only at ha
    subst ha
    simp only at hr hq hn ⊢
    have i1 : (0 : Int) ≤ (k : Int) := by omega
    have i2 : (k : Int) < (n : Int) := by omega
    have d2 : decide ((n : Int) ≤ (k : Int)) = false := decide_eq_false (by omega)
    have d2' : decide (n ≤ k) = false := decide_eq_false (by omega)
    clear h hg s1 s2 s3 s4 s5 s6 hx hlt hkk c2' hd' hq
    obtain ⟨xk, ⟨xa, xl, xc, xz⟩, xb⟩ := x
    simp only at c0' c1' hr hxl hl6
    by_cases hk1 : xk = 1
    · have e1 : (xk != 1) = false := by simp [hk1]
      rw [if_pos hk1] at hr
      have hwm : IntKind.i64.wrap (8 * (xl : Int)) = 8 * (xl : Int) := IntWalk.i64_in _ (by omega)
      by_cases hb0 : bit < 0
      · have e2 : decide (bit < 0) = true := decide_eq_true hb0
        rw [if_neg (by omega)] at hr
        obtain ⟨hB0, x0, x1⟩ := two' (w := w) (o1 := .cells #[.int .i64 p, .slice (some ⟨b, o, none⟩) n c] 24) (o2 := .cells #[.int .i64 0, .slice none 0 0] 24) rfl rfl
        obtain ⟨y0, y1, _⟩ := cells2 x0
        have c0 := (hB0.cell (cell_lt c0')).trans c0'
        have c1 := (hB0.cell (cell_lt c1')).trans c1'
        have HB0 := Lib.hid hB0
        have HR := Lib.hid hr
        clear hB0 x0 x1 hr c0' c1' hn hxl hk1 hb0
        go_enter Try.func34, Try.ntmps34
        go_wp2
        refine bodyPost_ret (v := .tuple #[.agg #[.int .i64 0, .slice none 0 0], .int .i64 1]) (by simp [results, Try.results34, go_sem]) rfl ?_
        exact MPost.none_ HR.out HB0.out
      · have e2 : decide (bit < 0) = false := decide_eq_false hb0
        obtain ⟨m, rfl⟩ : ∃ m : Nat, bit = m := ⟨bit.toNat, by omega⟩
        rw [Int.toNat_natCast, hxl] at hr
        by_cases hml : m / 8 < xl
        · rw [if_pos ⟨by omega, hml⟩] at hr
          rw [hr] at hn
          exact absurd rfl hn
        · rw [if_neg (by omega)] at hr
          have e3 : decide (8 * (xl : Int) ≤ (m : Int)) = true := decide_eq_true (by omega)
          have e3' : decide (8 * xl ≤ m) = true := decide_eq_true (by omega)
          obtain ⟨hB0, x0, x1⟩ := two' (w := w) (o1 := .cells #[.int .i64 p, .slice (some ⟨b, o, none⟩) n c] 24) (o2 := .cells #[.int .i64 0, .slice none 0 0] 24) rfl rfl
          obtain ⟨y0, y1, _⟩ := cells2 x0
          have c0 := (hB0.cell (cell_lt c0')).trans c0'
          have c1 := (hB0.cell (cell_lt c1')).trans c1'
          have HB0 := Lib.hid hB0
          have HR := Lib.hid hr
          clear hB0 x0 x1 hr c0' c1' hn hxl hk1 hb0 hml
          go_enter Try.func34, Try.ntmps34
          go_wp2
          refine bodyPost_ret (v := .tuple #[.agg #[.int .i64 0, .slice none 0 0], .int .i64 1]) (by simp [results, Try.results34, go_sem]) rfl ?_
          exact MPost.none_ HR.out HB0.out
    · have e1 : (xk != 1) = true := by simp [hk1]
      rw [if_neg hk1] at hr
      obtain ⟨hB0, x0, x1⟩ := two' (w := w) (o1 := .cells #[.int .i64 p, .slice (some ⟨b, o, none⟩) n c] 24) (o2 := .cells #[.int .i64 0, .slice none 0 0] 24) rfl rfl
      obtain ⟨y0, y1, _⟩ := cells2 x0
      have c0 := (hB0.cell (cell_lt c0')).trans c0'
      have c1 := (hB0.cell (cell_lt c1')).trans c1'
      have HB0 := Lib.hid hB0
      have HR := Lib.hid hr
      clear hB0 x0 x1 hr c0' c1' hn hxl hk1
      go_enter Try.func34, Try.ntmps34
      go_wp2
      refine bodyPost_ret (v := .tuple #[.agg #[.int .i64 0, .slice none 0 0], .int .i64 8]) (by simp [results, Try.results34, go_sem]) rfl ?_
      exact MPost.none_ HR.out HB0.out
  · rw [flipK_out _ _ _ _ (by rw [s5]; exact hq)] at hr
    obtain ⟨p, a, n, c, cs⟩ := t
    simp only at hq
    by_cases hq0 : q < 0
    · have d1 : decide (q < 0) = true := decide_eq_true hq0
      simp only
      obtain ⟨hB0, x0, x1⟩ := two' (w := w) (o1 := .cells #[.int .i64 p, .slice a n c] 24) (o2 := .cells #[.int .i64 0, .slice none 0 0] 24) rfl rfl
      obtain ⟨y0, y1, _⟩ := cells2 x0
      have HB0 := Lib.hid hB0
      have HR := Lib.hid hr
      clear hB0 x0 x1 hr h hg hn hq s1 s2 s3 s4 s5 s6 hq0
      go_enter Try.func34, Try.ntmps34
      go_wp2
      refine bodyPost_ret (v := .tuple #[.agg #[.int .i64 0, .slice none 0 0], .int .i64 8]) (by simp [results, Try.results34, go_sem]) rfl ?_
      exact MPost.none_ HR.out HB0.out
    · have d1 : decide (q < 0) = false := decide_eq_false hq0
      have d2 : decide ((n : Int) ≤ q) = true := decide_eq_true (by omega)
      simp only
      obtain ⟨hB0, x0, x1⟩ := two' (w := w) (o1 := .cells #[.int .i64 p, .slice a n c] 24) (o2 := .cells #[.int .i64 0, .slice none 0 0] 24) rfl rfl
      obtain ⟨y0, y1, _⟩ := cells2 x0
      have HB0 := Lib.hid hB0
      have HR := Lib.hid hr
      clear hB0 x0 x1 hr h hg hn hq s1 s2 s3 s4 s5 s6 hq0
      go_enter Try.func34, Try.ntmps34
      go_wp2
      refine bodyPost_ret (v := .tuple #[.agg #[.int .i64 0, .slice none 0 0], .int .i64 8]) (by simp [results, Try.results34, go_sem]) rfl ?_
      exact MPost.none_ HR.out HB0.out

set_option maxHeartbeats 8000000 in
/-- FLIP, OF THE DOCUMENT: where it is done. -/
theorem rflip_yes (t : Tap) (k m : Nat) (w : World) (h : t.ok w) (hg : goodK t.p t.ks = true) (hk : k < t.cs.length) (hk1 : t.cs[k].k = 1) (hm : m / 8 < t.cs[k].d.l) : Calls Try.prog 34 #[.agg #[.int .i64 t.p, .slice t.a t.n t.c], .int .i64 k, .int .i64 m] w (MPost w (0, t.p, t.ks.modify k fun x => (x.1, flipZ x.2.1 m, x.2.2))) := by
  obtain ⟨s1, s2, s3, s4, s5, s6⟩ := h.sizes hg
  have hkn : k < t.n := by rw [← h.len]; exact hk
  have hf := fun V (hV : Below w.heap.size w V) => twinmed_all t V (h.below hV) s6 (by omega)
  have hkk : t.ks[k]? = some (t.cs[k].k, t.cs[k].d.z, t.cs[k].b) := keys_get t.cs k hk
  obtain ⟨b, o, ha, c0', c1', c2', hd'⟩ := h.cells.at hk
  have hl6 := s6 k hk
  obtain ⟨x, hx⟩ : ∃ x, x = t.cs[k] := ⟨_, rfl⟩
  rw [← hx] at c0' c1' c2' hd' hkk hk1 hm hl6
  rw [hk1] at c0'
  have hxl := hd'.len
  obtain ⟨p, a, n, c, cs⟩ := t
  simp only at ha hkn hl6
  subst ha
  simp only [Tap.ks] at hf hkk ⊢
  have HF := Lib.hid hf
  have i1 : (0 : Int) ≤ (k : Int) := by omega
  have i2 : (k : Int) < (n : Int) := by omega
  have d2 : decide ((n : Int) ≤ (k : Int)) = false := decide_eq_false (by omega)
  have d2' : decide (n ≤ k) = false := decide_eq_false (by omega)
  have hwm : IntKind.i64.wrap (8 * (x.d.l : Int)) = 8 * (x.d.l : Int) := IntWalk.i64_in _ (by omega)
  have e2 : decide ((m : Int) < 0) = false := decide_eq_false (by omega)
  have e3 : decide (8 * (x.d.l : Int) ≤ (m : Int)) = false := decide_eq_false (by omega)
  have e3' : decide (8 * x.d.l ≤ m) = false := decide_eq_false (by omega)
  have j1 : (0 : Int) ≤ (m : Int) / 8 := by omega
  have j2 : (m : Int) / 8 < (x.d.l : Int) := by omega
  have hm63 : m ≤ 2 ^ 63 - 1 := by omega
  obtain ⟨hB0, x0, x1⟩ := two' (w := w) (o1 := .cells #[.int .i64 p, .slice (some ⟨b, o, none⟩) n c] 24) (o2 := .cells #[.int .i64 0, .slice none 0 0] 24) rfl rfl
  obtain ⟨y0, y1, _⟩ := cells2 x0
  have c0 := (hB0.cell (cell_lt c0')).trans c0'
  have c1 := (hB0.cell (cell_lt c1')).trans c1'
  clear c0' c1'
  have HB0 := Lib.hid hB0; have X0 := Lib.hid x0; have X1 := Lib.hid x1; have HKK := Lib.hid hkk; have HXL := Lib.hid hxl; have HM := Lib.hid hm; have HDB := Lib.hid hd'.bts
  clear hB0 x0 x1 h hg s1 s2 s3 s4 s5 s6 hf hkk hx c2' hd' hk hk1 hxl hm
  go_enter Try.func34, Try.ntmps34
  go_wp2_with (go_at_call 10; fail)
  refine (HF.out _ HB0.out).mono ?_
  rintro e w2 ⟨ko, kc, cs', rfl, hO, hk, hB2, hap⟩
  have u0 := cells2at X0.out hB2
  have u1 := cells2at X1.out hB2
  obtain ⟨s0, s1, sf⟩ := cells2 u0
  obtain ⟨g0, hg0⟩ : ∃ g0, g0 = w.heap.size := ⟨_, rfl⟩
  obtain ⟨g1, hg1⟩ : ∃ g1, g1 = w.heap.size + 1 := ⟨_, rfl⟩
  rw [← hg1] at u1
  rw [← hg0] at u0 s0 s1 sf
  have hne : g1 ≠ g0 := by omega
  obtain ⟨W3, hW3⟩ : ∃ W3, W3 = (w2.setCell ⟨g0, 0, none⟩ (.int .i64 p)).setCell ⟨g0, 1, none⟩ (.slice ko n kc) := ⟨_, rfl⟩
  have v0 : W3.heap[g0]? = some (.cells #[.int .i64 p, .slice ko n kc] 24 (0, 0)) := by rw [hW3]; exact heap2 u0 _ _
  have v1 : W3.heap[g1]? = some (.cells #[.int .i64 0, .slice none 0 0] 24 (0, 0)) := by rw [hW3, set2_far hne]; exact u1
  have o3 : OCs W3 w.heap.size ko n kc cs' := by rw [hW3]; exact (hO.low HB0.out.size).set2 u0 _ _ (by decide) (by decide)
  have b3 : Below w.heap.size w W3 := by rw [hW3]; exact below2 (HB0.out.trans (hB2.mono HB0.out.size)) (by omega) _ _
  have hgn : w.heap.size ≤ g1 := by omega
  have hgn0 : w.heap.size ≤ g0 := by omega
  clear hO hB2 u0 u1 y0 y1 c0 c1
  rw [← hg1, ← hg0]
  clear hg0 hg1
  go_upto_region 6 with (fail)
  rw [← hW3]
  clear s0 s1 sf hW3
  obtain ⟨t0, t1, tf⟩ := cells2 v0
  obtain ⟨gm, rfl⟩ : ∃ gm, ko = some ⟨gm, 0, none⟩ := by
    rcases o3.row.2 with ⟨_, h0⟩ | ⟨g, c, cur, e, _⟩
    · omega
    · simp only [Value.slice.injEq] at e; exact ⟨g, e.1⟩
  have hk3 : k < cs'.length := by rw [o3.len]; exact hkn
  -- the cell itself
  have hk3y := keys_get cs' k hk3
  rw [hk, HKK.out] at hk3y
  have hz3 : cs'[k].d.z = x.d.z := by
    have := Option.some.inj hk3y
    have h2 := congrArg (fun y : Key => y.2.1) this
    exact h2.symm
  have hown := o3.own k hk3
  have hl3 : cs'[k].d.l = x.d.l := by rw [← hown.1.1.len, hz3, HXL.out]
  obtain ⟨gd, hgd⟩ : ∃ gd, cs'[k].d.a = some ⟨gd, 0, none⟩ := by
    rcases hown.1.2 with e | ⟨g, _, e, _⟩
    · rcases hown.1.1.rd with h0 | ⟨b, o, e2, _⟩
      · have := HM.out; rw [hz3] at h0; have h2 := HXL.out; rw [h0] at h2; simp at h2; omega
      · rw [e] at e2; cases e2
    · exact ⟨g, e⟩
  have hrow := o3.row
  have hcell : W3.cell? ⟨gm, k * 3 + 1, none⟩ = some (.slice (some ⟨gd, 0, none⟩) x.d.l cs'[k].d.c) := by
    rw [hrow.cellAt (k * 3 + 1) (by omega), (ccs_get cs' k hk3).2.1, hgd, hl3]
  obtain ⟨ch, hch⟩ : ∃ ch, ch = x.d.z.getD (m / 8) 0 := ⟨_, rfl⟩
  have hbyte : W3.cell? ⟨gd, m / 8, none⟩ = some (.int .u8 ch) := by
    obtain ⟨b, o, e, hc⟩ := hown.1.1.rd.at (by rw [hz3, HXL.out]; have := HM.out; omega)
    rw [hgd] at e; cases e
    have := hc (m / 8) (by rw [hz3, HXL.out]; exact HM.out)
    rw [Nat.zero_add, hz3] at this
    rw [this, hch]
  have hcb : 0 ≤ ch ∧ ch ≤ 255 := by rw [hch]; exact HDB.out _ (by rw [HXL.out]; exact HM.out)
  have hpb : (2 ^ (m % 8) : Nat) ≤ 2 ^ 7 := Nat.pow_le_pow_right (by decide) (by omega)
  have hpb2 : (0 : Int) ≤ ((2 ^ (m % 8) : Nat) : Int) ∧ ((2 ^ (m % 8) : Nat) : Int) ≤ 255 := by
    have h3 : ((2 ^ (m % 8) : Nat) : Int) ≤ ((2 ^ 7 : Nat) : Int) := Int.ofNat_le.2 hpb
    exact ⟨Int.natCast_nonneg _, Int.le_trans h3 (by decide)⟩
  have hxr : Go.bits .xor .u8 ch (2 ^ (m % 8) % 256) = bx ch ((2 ^ (m % 8) : Nat) : Int) := by
    rw [pow_byte _ (Nat.mod_lt _ (by decide))]
    exact xor_u8 _ _ hcb.1 hcb.2 hpb2.1 hpb2.2
  have hvb := bx_bd ch _ hcb.1 hcb.2 hpb2.1 hpb2.2
  obtain ⟨nb, hnb⟩ : ∃ nb, nb = bx ch ((2 ^ (m % 8) : Nat) : Int) := ⟨_, rfl⟩
  rw [← hnb] at hxr hvb
  obtain ⟨curm, hcurm⟩ := row_heapN hrow
  obtain ⟨curd, hcurd⟩ : ∃ cur, W3.heap[gd]? = some (.cells cur 5 (0, 0)) := by
    rcases hown.1.2 with e | ⟨g, cur, e, hh⟩
    · rw [e] at hgd; cases hgd
    · rw [hgd] at e; cases e; exact ⟨cur, hh⟩
  have hfz : W3.frozen? ⟨gd, m / 8, none⟩ = false := by simp [World.frozen?, hcurd]
  have ng0 : g0 ≠ gd := by
    rintro rfl
    rw [v0] at hcurd
    simp only [Option.some.injEq, Obj.cells.injEq] at hcurd
    exact absurd hcurd.2.1 (by decide)
  have ng1 : g1 ≠ gd := by
    rintro rfl
    rw [v1] at hcurd
    simp only [Option.some.injEq, Obj.cells.injEq] at hcurd
    exact absurd hcurd.2.1 (by decide)
  have ngm : gm ≠ gd := by
    rintro rfl
    rw [hcurm] at hcurd
    simp only [Option.some.injEq, Obj.cells.injEq] at hcurd
    exact absurd hcurd.2.1 (by decide)
  have hgdn : w.heap.size ≤ gd := hown.2 _ hgd
  obtain ⟨W4, hW4⟩ : ∃ W4, W4 = W3.setCell ⟨gd, m / 8, none⟩ (.int .u8 nb) := ⟨_, rfl⟩
  have v0' : W4.heap[g0]? = some (.cells #[.int .i64 p, .slice (some ⟨gm, 0, none⟩) n kc] 24 (0, 0)) := by rw [hW4, set_far _ _ _ _ _ ng0]; exact v0
  have v1' : W4.heap[g1]? = some (.cells #[.int .i64 0, .slice none 0 0] 24 (0, 0)) := by rw [hW4, set_far _ _ _ _ _ ng1]; exact v1
  obtain ⟨csn, hcsn⟩ : ∃ csn, csn = cs'.set k ⟨cs'[k].k, ⟨cs'[k].d.a, cs'[k].d.l, cs'[k].d.c, x.d.z.set (m / 8) nb⟩, cs'[k].b⟩ := ⟨_, rfl⟩
  have o4 : OCs W4 w.heap.size (some ⟨gm, 0, none⟩) n kc csn := by
    refine ⟨by rw [hcsn, List.length_set]; exact o3.len, o3.room, o3.cm, ?_, fun i hi => ?_⟩
    · rw [hcsn, ccs_same cs' _ k hk3, hW4]
      exact own_heap hrow fun g e => by
        have : g = gm := by simpa [Value.ownBlock] using e.symm
        subst this
        exact set_far _ _ _ _ _ ngm
    · have hi' : i < cs'.length := by rw [hcsn] at hi; simpa using hi
      by_cases e : k = i
      · subst e
        have hd : csn[k].d = ⟨cs'[k].d.a, cs'[k].d.l, cs'[k].d.c, x.d.z.set (m / 8) nb⟩ := by simp [hcsn]
        rw [hd, hW4]
        refine ⟨?_, hown.2⟩
        have h1 := hown.1
        have hpe : cs'[k].d = ⟨some ⟨gd, 0, none⟩, cs'[k].d.l, cs'[k].d.c, x.d.z⟩ := by
          rw [← hgd, ← hz3]
        rw [hpe] at h1
        rw [hgd]
        exact h1.put (by rw [hl3]; exact HM.out) hvb
      · have hd : csn[i].d = cs'[i].d := by
          simp only [hcsn, List.getElem_set, if_neg e]
        rw [hd, hW4]
        have h1 := o3.own i hi'
        refine h1.set gd _ _ fun g eg hgg => ?_
        subst hgg
        rcases Nat.lt_or_ge i k with hlt | hge
        · have := hap i k hi' hk3 hlt _ _ eg hgd; simp at this
        · have := hap k i hk3 hi' (by omega) _ _ hgd eg; simp at this
  have b4 : Below w.heap.size w W4 := by rw [hW4]; exact b3.setCell hgdn _
  have hkeys5 : keys csn = (keys cs).modify k fun x => (x.1, flipZ x.2.1 m, x.2.2) := by
    rw [hcsn, keys_mod cs' _ k hk3, hk]
    apply List.ext_getElem?
    intro i
    rw [List.getElem?_modify, List.getElem?_modify]
    by_cases e : k = i
    · subst e
      simp only [if_pos, HKK.out]
      show some (x.k, x.d.z.set (m / 8) nb, x.b) = some (x.k, flipZ x.d.z m, x.b)
      unfold flipZ
      rw [← hch, ← hnb]
    · simp only [if_neg e]
  have HK := Lib.hid hkeys5
  generalize hcc : cs'[k].d.c = cc at hcell
  clear hcc v0 v1 o3 b3 hk hrow hcurm hcurd ng0 ng1 ngm hgdn hap hk3y hz3 hown hl3 hgd hch hcb hpb hpb2 hvb hnb hcsn hkeys5 hk3
  go_upto_region 7 with (fail)
  rw [← hW4]
  clear t0 t1 tf hW4 hcell hbyte hfz hxr
  obtain ⟨b0, b1, _⟩ := cells2 v0'
  obtain ⟨z0, z1, zf⟩ := cells2 v1'
  obtain ⟨f0, f1⟩ := store2 v1' (.int .i64 p) (.slice (some ⟨gm, 0, none⟩) (n) kc)
  have HO6 := Lib.hid (o4.set2 v1' (.int .i64 p) (.slice (some ⟨gm, 0, none⟩) (n) kc) (by decide) (by decide))
  have HB6 := Lib.hid (below2 b4 hgn (.int .i64 p) (.slice (some ⟨gm, 0, none⟩) (n) kc))
  clear v0' v1' o4 b4
  go_wp2
  refine bodyPost_ret (v := .tuple #[.agg #[.int .i64 p, .slice (some ⟨gm, 0, none⟩) n kc], .int .i64 0]) (by simp [results, Try.results34, go_sem, f0, f1]) rfl ?_
  exact ⟨some ⟨gm, 0, none⟩, n, kc, _, rfl, HO6.out, HK.out, HB6.out⟩
end Go.Proofs.Ytojcinkchdhjpaa
