/-
  Tapes: Write, Tear.
-/
import Derived.Test.YtmcbmemgeegodaaMed8
namespace Go.Proofs.Ytmcbmemgeegodaa
open Go.RowKit
set_option linter.unusedVariables false

/-- Write, by what the cells say. -/
def writeK (p : Int) (ks : List Key) (q : Int) (z : List Int) : Int × Int × List Key := if ce p ks.length q z.length = 0 then (0, p, ks.take q.toNat ++ [(1, z, false)]) else (ce p ks.length q z.length, 0, [])
def tearK (p : Int) (ks : List Key) (q : Int) (z : List Int) (keep : Int) : Int × Int × List Key := if ce p ks.length q z.length = 0 then (if keep < 0 then (0, p, ks) else (0, p, ks.take q.toNat ++ [(3, z.take keep.toNat, false)])) else (ce p ks.length q z.length, 0, [])
theorem ce_ok {p : Int} {n : Nat} {q : Int} {m : Nat} (h : ce p n q m = 0) : 0 ≤ q ∧ q ≤ n ∧ 1 ≤ m ∧ m ≤ 256 ∧ q ≠ p := by
  unfold ce at h
  by_cases h1 : ¬ (0 ≤ q ∧ q ≤ (n : Int))
  · rw [if_pos h1] at h; omega
  · rw [if_neg h1] at h
    by_cases h2 : m < 1 ∨ 256 < m
    · rw [if_pos h2] at h; omega
    · rw [if_neg h2] at h
      by_cases h3 : q = p
      · rw [if_pos h3] at h; omega
      · omega
theorem keep2 {w : World} {g g6 : Nat} {v0 v1 : Value} (h : w.cell? ⟨g, 0, none⟩ = some v0 ∧ w.cell? ⟨g, 1, none⟩ = some v1) (hne : g ≠ g6) : ∀ u0 u1, ((w.setCell ⟨g6, 0, none⟩ u0).setCell ⟨g6, 1, none⟩ u1).cell? ⟨g, 0, none⟩ = some v0 ∧ ((w.setCell ⟨g6, 0, none⟩ u0).setCell ⟨g6, 1, none⟩ u1).cell? ⟨g, 1, none⟩ = some v1 := fun u0 u1 => by
  have k (n : Nat) : ((w.setCell ⟨g6, 0, none⟩ u0).setCell ⟨g6, 1, none⟩ u1).cell? ⟨g, n, none⟩ = w.cell? ⟨g, n, none⟩ := by
    have e : ((w.setCell ⟨g6, 0, none⟩ u0).setCell ⟨g6, 1, none⟩ u1).heap[g]? = w.heap[g]? := by rw [set_far _ _ _ _ _ hne, set_far _ _ _ _ _ hne]
    generalize ((w.setCell ⟨g6, 0, none⟩ u0).setCell ⟨g6, 1, none⟩ u1) = W at e ⊢
    exact World.cell?_of_block e
  rw [k 0, k 1]; exact h

set_option maxHeartbeats 4000000 in
/-- WRITE, of a right tape. -/
theorem write_any (t : Tap) (q : Int) (d : Part) (w : World) (h : t.ok w) (hg : goodK t.p t.ks = true) (hd : d.ok w) : Calls Try.prog 44 #[.agg #[.int .i64 t.p, .slice t.a t.n t.c], .int .i64 q, .slice d.a d.l d.c] w (MPost w (writeK t.p t.ks q d.z)) := by
  obtain ⟨s1, s2, s3, s4, s5, s6⟩ := h.sizes hg
  have hcw := fun V (hV : Below w.heap.size w V) => cw_any t q d.a d.l d.c V (h.below hV) hg hd.small
  obtain ⟨r, hr⟩ : ∃ r, r = writeK t.p t.ks q d.z := ⟨_, rfl⟩
  rw [← hr]
  unfold writeK at hr
  rw [s5, hd.len] at hr
  by_cases hce : ce t.p t.n q d.l = 0
  · rw [if_pos hce] at hr
    rw [hce] at hcw
    obtain ⟨q1, q2, q3, q4, q5⟩ := ce_ok hce
    obtain ⟨k, rfl⟩ : ∃ k : Nat, q = k := ⟨q.toNat, by omega⟩
    rw [Int.toNat_natCast] at hr
    have hput := fun V (hV : Below w.heap.size w V) ko kc (ho : OwnB V w.heap.size ⟨ko, d.l, kc, d.z⟩) => put_any t k ⟨1, ⟨ko, d.l, kc, d.z⟩, false⟩ w.heap.size V (h.below hV) s6 (by omega) (by omega) ho hV.size
    have hcl := fun V (hV : Below w.heap.size w V) => clone_any d V (hd.below hV) (by omega)
    have hbt := hd.bts
    obtain ⟨p, a, n, c, cs⟩ := t
    obtain ⟨da, dl, dc, dz⟩ := d
    simp only [Tap.ks] at hcw hput hcl hbt hr ⊢
    have HC := Lib.hid hcw; have HPUT := Lib.hid hput; have HCL := Lib.hid hcl; have HBT := Lib.hid hbt; have HR := Lib.hid hr
    clear h hg hd s1 s2 s3 s4 s5 s6 hcw hput hcl hbt hr hce q1 q2 q3 q4 q5
    go_enter Try.func44, Try.ntmps44
    go_wp2_with (go_at_call 71; fail)
    obtain ⟨g1, hg1⟩ : ∃ g1, g1 = w.heap.size + 1 := ⟨_, rfl⟩
    rw [← hg1]
    generalize hW0 : World.alloc _ (.cells #[.int .i64 0, .slice none 0 0] 24) = W0
    obtain ⟨hB0, x0, x1⟩ := two' hW0 hg1
    have hgn : w.heap.size ≤ g1 := by omega
    have hne : w.heap.size ≠ g1 := by omega
    clear hW0 hg1
    refine (HC.out W0 hB0).mono ?_
    rintro e w1 ⟨rfl, hB1⟩
    have hB01 := hB0.trans (hB1.mono hB0.size)
    have y0 := cells2at x0 hB1
    have y1 := cells2at x1 hB1
    have hcell : ∀ V, Below w1.heap.size w1 V → V.cell? ⟨w.heap.size, 0, none⟩ = some (.int .i64 p) ∧ V.cell? ⟨w.heap.size, 1, none⟩ = some (.slice a n c) := fun V hb => by
      obtain ⟨a0, a1, _⟩ := cells2 (cells2at y0 hb)
      exact ⟨a0, a1⟩
    have HCELL := Lib.hid hcell; have HB1 := Lib.hid hB01; have Y1 := Lib.hid y1; have HNE := Lib.hid hne
    clear hB0 x0 x1 hB1 hB01 y0 y1 hcell hne
    go_wp2
    go_region_held3 (fun V => V.cell? ⟨w.heap.size, 0, none⟩ = some (.int .i64 p) ∧ V.cell? ⟨w.heap.size, 1, none⟩ = some (.slice a n c)) (first | exact HCELL.out _ (Below.refl _ _).drew | exact HCELL.out _ HB5.out | exact HCELL.out _ HB6.out | exact HK.out _ _)
      ((first
        | (go_at_call 70; (with_reducible refine (HCL.out _ (HB1.out.trans ((Below.refl w1.heap.size w1).drew.mono HB1.out.size))).mono ?_); rintro e w5 ⟨ko, kc, rfl, how, hB5⟩; have HB5 : Hid (Below w1.heap.size w1 w5) := (Below.refl _ _).drew.trans hB5; have HO5 : Hid (OwnB w5 w.heap.size ⟨ko, dl, kc, dz⟩) := (OwnB.of_ow how HBT.out).low HB1.out.size; clear hB5 how)
        | (go_at_call 72; (with_reducible refine (HPUT.out _ (HB1.out.trans (HB5.out.mono HB1.out.size)) _ _ HO5.out).mono ?_); rintro e w6 ⟨ko6, kc6, cs6, rfl, hO6, hk6, hB6⟩; have HB6 : Hid (Below w1.heap.size w1 w6) := HB5.out.trans (hB6.mono HB5.out.size); have HO6 := Lib.hid hO6; have HK6 := Lib.hid hk6; obtain ⟨z0, z1, zf⟩ := cells2 (cells2at Y1.out HB6.out); have HK := Lib.hid (keep2 (HCELL.out _ HB6.out) HNE.out); clear hB6 hO6 hk6)))
    rename_i hheld
    obtain ⟨f0, f1⟩ := store2 (cells2at Y1.out HB6.out) (.int .i64 p) (.slice ko6 (k + 1) kc6)
    clear hheld z0 z1 zf
    go_wp2
    refine bodyPost_ret (v := .tuple #[.agg #[.int .i64 p, .slice ko6 (k + 1) kc6], .int .i64 0]) (by simp [results, Try.results44, go_sem, f0, f1]) rfl ?_
    rw [HR.out]
    exact ⟨ko6, k + 1, kc6, cs6, rfl, HO6.out.set2 (cells2at Y1.out HB6.out) _ _ (by decide) (by decide), HK6.out, below2 (HB1.out.trans (HB6.out.mono HB1.out.size)) hgn _ _⟩
  · rw [if_neg hce] at hr
    obtain ⟨er, her⟩ : ∃ er, er = ce t.p t.n q d.l := ⟨_, rfl⟩
    rw [← her] at hr hcw hce
    have d1 : (er != 0) = true := by simp [hce]
    obtain ⟨p, a, n, c, cs⟩ := t
    obtain ⟨da, dl, dc, dz⟩ := d
    simp only at hcw hr ⊢
    have HC := Lib.hid hcw; have HR := Lib.hid hr
    clear h hg hd s1 s2 s3 s4 s5 s6 hcw hr hce her
    go_enter Try.func44, Try.ntmps44
    go_wp2_with (go_at_call 71; fail)
    obtain ⟨g1, hg1⟩ : ∃ g1, g1 = w.heap.size + 1 := ⟨_, rfl⟩
    rw [← hg1]
    generalize hW0 : World.alloc _ (.cells #[.int .i64 0, .slice none 0 0] 24) = W0
    obtain ⟨hB0, x0, x1⟩ := two' hW0 hg1
    have hgn : w.heap.size ≤ g1 := by omega
    clear hW0 hg1
    refine (HC.out W0 hB0).mono ?_
    rintro e w1 ⟨rfl, hB1⟩
    have hB01 := hB0.trans (hB1.mono hB0.size)
    have x2 := cells2at x1 hB1
    obtain ⟨z0, z1, zf⟩ := cells2 x2
    obtain ⟨f0, f1⟩ := store2 x2 (.int .i64 0) (.slice none 0 0)
    have HB2 := Lib.hid (below2 hB01 hgn (.int .i64 0) (.slice none 0 0))
    clear hB0 x0 x1 hB1 hB01 x2
    go_wp2
    refine bodyPost_ret (v := .tuple #[.agg #[.int .i64 0, .slice none 0 0], .int .i64 er]) (by simp [results, Try.results44, go_sem, f0, f1]) rfl ?_
    exact MPost.none_ HR.out HB2.out

end Go.Proofs.Ytmcbmemgeegodaa
