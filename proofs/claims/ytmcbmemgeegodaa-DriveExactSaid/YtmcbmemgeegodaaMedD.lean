/-
  Tapes: the twin of a tape; of the document: put.
-/
import Derived.Test.YtmcbmemgeegodaaMedA
namespace Go.Proofs.Ytmcbmemgeegodaa
open Go.RowKit
set_option linter.unusedVariables false

/-- What a call that tells a tape alone leaves. -/
def TPost (w : World) (p : Int) (n : Nat) (ks : List Key) (e : Ending) (w' : World) : Prop :=
  ∃ ko kc cs', e = .returned (.agg #[.int .i64 p, .slice ko n kc]) ∧ OCs w' w.heap.size ko n kc cs' ∧ keys cs' = ks ∧ Below w.heap.size w w'
theorem cells3f {w : World} {g T : Nat} {v0 v1 v2 : Value} (h : w.heap[g]? = some (.cells #[v0, v1, v2] T (0, 0))) : w.cell? ⟨g, 0, none⟩ = some v0 ∧ w.cell? ⟨g, 1, none⟩ = some v1 ∧ w.cell? ⟨g, 2, none⟩ = some v2 ∧ ∀ j, w.frozen? ⟨g, j, none⟩ = false :=
  ⟨by simp [World.cell?, h], by simp [World.cell?, h], by simp [World.cell?, h], fun j => by simp [World.frozen?, h]⟩
set_option maxHeartbeats 4000000 in
/-- THE TWIN OF A TAPE. -/
theorem twinmed_all (t : Tap) (w : World) (h : t.ok w) (hd : ∀ k, (hk : k < t.cs.length) → t.cs[k].d.l ≤ 1000000) (hm : t.n ≤ 1000000) :
    Calls Try.prog 12 #[.agg #[.int .i64 t.p, .slice t.a t.n t.c]] w fun e w' => ∃ ko kc cs', e = .returned (.agg #[.int .i64 t.p, .slice ko t.n kc]) ∧ OCs w' w.heap.size ko t.n kc cs' ∧ keys cs' = t.ks ∧ Below w.heap.size w w' ∧ Apart cs' := by
  have HCS := Lib.hid h.cells; have HL := Lib.hid h.len; have H4 := Lib.hid hd
  obtain ⟨p, a, n, c, cs⟩ := t
  simp only [Tap.ks] at hm HCS HL H4 ⊢
  clear h hd
  go_enter Try.func12, Try.ntmps12
  go_wp2
  obtain ⟨g1, hg1⟩ : ∃ g1, g1 = w.heap.size + 1 := ⟨_, rfl⟩
  rw [← hg1]
  generalize hW0 : World.alloc _ (.cells #[.int .i64 0, .slice none 0 0] 24) = W0
  obtain ⟨hB0, x0, x1⟩ := two' hW0 hg1
  have hgn : w.heap.size ≤ g1 := by omega
  have hne : w.heap.size ≠ g1 := by omega
  have HB0 := Lib.hid hB0; have X0 := Lib.hid x0; have X1 := Lib.hid x1; have HNE := Lib.hid hne
  clear hW0 hg1 hB0 x0 x1 hne
  go_loopw [3, 4] (fun v i wr => ∃ (k : Nat) (ko : Option Addr) (kc : Nat) (cs' : List Cel), k ≤ n ∧ i = .int .i64 k ∧ v = .slice ko k kc ∧ OCs wr w.heap.size ko k kc cs' ∧ keys cs' = (keys cs).take k ∧ wr.heap[w.heap.size]? = some (.cells #[.int .i64 p, .slice a n c] 24 (0, 0)) ∧ wr.heap[g1]? = some (.cells #[.int .i64 0, .slice none 0 0] 24 (0, 0)) ∧ Below w.heap.size w wr ∧ Apart cs') (fun _ i _ => n - (intOf i).toNat)
  case atStart => exact ⟨0, none, 0, [], Nat.zero_le _, rfl, rfl, OCs.nil_ _ _, rfl, X0.out, X1.out, HB0.out, fun i j hi => absurd hi (Nat.not_lt_zero _)⟩
  case round =>
    obtain ⟨k, ko, kc, cs', hk, rfl, rfl, hors, hkeys, hx0, hx1, hB, hap⟩ := hrel
    have HB := Lib.hid hB; have HO := Lib.hid hors; have HK := Lib.hid hkeys; have Y0 := Lib.hid hx0; have Y1 := Lib.hid hx1
    have HAP := Lib.hid hap
    clear hx0 hx1 hap
    obtain ⟨y0, y1, _⟩ := cells2 Y0.out
    by_cases hlt : k < n
    · have d1 : decide ((k : Int) < (n : Int)) = true := decide_eq_true (by omega)
      have hlt1 : k < cs.length := by rw [HL.out]; exact hlt
      obtain ⟨b, o, rfl, c0, c1, c2, hd⟩ := (HCS.out.below hB).at hlt1
      have hl4 := H4.out k hlt1
      have hkt : (keys cs).take (k + 1) = (keys cs).take k ++ [cs[k].key] := by
        rw [List.take_add_one, keys_get cs k hlt1]; rfl
      obtain ⟨x, hx⟩ : ∃ x, x = cs[k] := ⟨_, rfl⟩
      rw [← hx] at c0 c1 c2 hd hl4 hkt
      obtain ⟨W1, hW1⟩ : ∃ W1, W1 = wr.alloc (.cells #[.int .i64 x.k, .slice x.d.a x.d.l x.d.c, .bool x.b] 62) := ⟨_, rfl⟩
      have hBW : Below wr.heap.size wr W1 := by rw [hW1]; exact (Below.refl _ _).alloc (Nat.le_refl _) _
      have hbx : W1.heap[wr.heap.size]? = some (.cells #[.int .i64 x.k, .slice x.d.a x.d.l x.d.c, .bool x.b] 62 (0, 0)) := by rw [hW1]; exact heap_alloc_new _ _
      have htw := twin_any x.d.a x.d.l x.d.c x.d.z W1 hd.len hl4 (hd.below hBW).rd hd.nil
      have j1 : (0 : Int) ≤ (k : Int) := by omega
      have j2 : (k : Int) < (n : Int) := by omega
      have HTW := Lib.hid htw; have HKT := Lib.hid hkt; have HW1 := Lib.hid hW1; have HBW := Lib.hid hBW; have HBX := Lib.hid hbx; have HD := Lib.hid hd
      clear hB hors hkeys hx hkt hW1 hBW hbx htw hd
      go_wp2_with (go_at_call 33; fail)
      rw [← HW1.out]
      refine HTW.out.mono ?_
      rintro e w3 ⟨k3, c3, rfl, ho3, hB3⟩
      have hx3 : w3.heap[wr.heap.size]? = some (.cells #[.int .i64 x.k, .slice x.d.a x.d.l x.d.c, .bool x.b] 62 (0, 0)) := by rw [hB3.block _ (Array.getElem?_eq_some_iff.1 HBX.out).1]; exact HBX.out
      obtain ⟨a0, a1, a2, f0⟩ := cells3f hx3
      have hx4 : (w3.setCell ⟨wr.heap.size, 1, none⟩ (.slice k3 x.d.l c3)).heap[wr.heap.size]? = some (.cells #[.int .i64 x.k, .slice k3 x.d.l c3, .bool x.b] 62 (0, 0)) := by
        have := Go.Joins.block_setCell (i := 1) hx3 (.slice k3 x.d.l c3)
        simpa using this
      obtain ⟨e0, e1, e2, _⟩ := cells3f hx4
      have hB4 : Below wr.heap.size wr (w3.setCell ⟨wr.heap.size, 1, none⟩ (.slice k3 x.d.l c3)) := (HBW.out.trans (hB3.mono HBW.out.size)).setCell (Nat.le_refl _) _
      have hW1s : W1.heap.size = wr.heap.size + 1 := by rw [HW1.out]; simp
      have hq3 : OwnB w3 w.heap.size ⟨k3, x.d.l, c3, x.d.z⟩ := (OwnB.of_ow ho3 HD.out.bts).low (by have := HB.out.size; omega)
      have hq4 : OwnB (w3.setCell ⟨wr.heap.size, 1, none⟩ (.slice k3 x.d.l c3)) w.heap.size ⟨k3, x.d.l, c3, x.d.z⟩ := hq3.set _ _ _ fun g e => by
        have := own_ge ho3.2.2.2 g (by simp only at e; rw [e]; rfl)
        omega
      obtain ⟨W4, hW4⟩ : ∃ W4, W4 = w3.setCell ⟨wr.heap.size, 1, none⟩ (.slice k3 x.d.l c3) := ⟨_, rfl⟩
      have h45 : Below W4.heap.size W4 (W4.alloc (.cells #[.int .i64 x.k, .slice k3 x.d.l c3, .bool x.b] 62)) := (Below.refl _ _).alloc (Nat.le_refl _) _
      have hg5 := heap_alloc_new W4 (.cells #[.int .i64 x.k, .slice k3 x.d.l c3, .bool x.b] 62)
      rw [← hW4] at hB4 hq4
      have hsz : W4.heap.size = w3.heap.size := by rw [hW4]; simp
      rw [hsz] at hg5
      have hB5 := hB4.trans (h45.mono hB4.size)
      have HK3 := Lib.hid (fun (b : Addr) (e : k3 = some b) => (show wr.heap.size < b.block from by have := own_ge ho3.2.2.2 b.block (by rw [e]; rfl); omega))
      have HO5 := Lib.hid ((HO.out.below hB4).below h45); have HQ5 := Lib.hid (hq4.below h45); have HG5 := Lib.hid hg5
      have Z0 := Lib.hid (cells2at Y0.out hB5); have Z1 := Lib.hid (cells2at Y1.out hB5)
      have HB5 := Lib.hid (HB.out.trans (hB5.mono HB.out.size))
      clear hx3 hx4 hB3 ho3 hB4 hq3 hq4 h45 hg5 hB5 c0 c1 c2 hsz hW1s
      subst hW4
      go_wp2_with (at_builtin; refine append_cel rfl (.tmp 22) (.tmp 24) rfl w.heap.size k kc w3.heap.size ko cs' ⟨x.k, ⟨k3, x.d.l, c3, x.d.z⟩, x.b⟩ rfl HO5.out rfl HG5.out HQ5.out (by omega) HB5.out.size ?_; intro ko' kc' w5 ho5 hg5 hB6; have HO6 := Lib.hid ho5; have HB6 := Lib.hid (HB5.out.trans hB6); have V0 := Lib.hid ((hg5.block _ (Array.getElem?_eq_some_iff.1 Z0.out).1 (fun e => HO5.out.ne_block Z0.out (by decide) _ e.symm rfl)).trans Z0.out); have V1 := Lib.hid ((hg5.block _ (Array.getElem?_eq_some_iff.1 Z1.out).1 (fun e => HO5.out.ne_block Z1.out (by decide) _ e.symm rfl)).trans Z1.out); clear ho5 hg5 hB6)
      go_roundw
      case rel => exact ⟨k + 1, ko', kc', cs' ++ [⟨x.k, ⟨k3, x.d.l, c3, x.d.z⟩, x.b⟩], by omega, by go_num, rfl, HO6.out, by rw [HKT.out]; unfold keys; rw [List.map_append]; show List.map _ cs' ++ _ = _; have := HK.out; unfold keys at this; rw [this]; rfl, V0.out, V1.out, HB6.out, HAP.out.snoc fun i hi a b ha hb => (by have h1 := (HO.out.own i hi).1.lt ha; have h2 := HK3.out b hb; omega)⟩
      case measure => simp [intOf]; omega
    · have d1 : decide ((k : Int) < (n : Int)) = false := decide_eq_false (by omega)
      obtain rfl : n = k := by omega
      rw [List.take_of_length_le (by rw [keys_len, HL.out]; exact Nat.le_refl _)] at hkeys
      have HK2 := Lib.hid hkeys
      obtain ⟨r0, r1, rf⟩ := cells2 Y1.out
      have frz := (cells2 Y0.out).2.2
      have hy1 : (wr.setCell ⟨w.heap.size, 1, none⟩ (.slice ko n kc)).heap[w.heap.size]? = some (.cells #[.int .i64 p, .slice ko n kc] 24 (0, 0)) := by
        have := Go.Joins.block_setCell (i := 1) Y0.out (.slice ko n kc)
        simpa using this
      have hz1 : (wr.setCell ⟨w.heap.size, 1, none⟩ (.slice ko n kc)).heap[g1]? = some (.cells #[.int .i64 0, .slice none 0 0] 24 (0, 0)) := by rw [set_far _ _ _ _ _ HNE.out.symm]; exact Y1.out
      obtain ⟨q0, q1, _⟩ := cells2 hy1
      obtain ⟨s0, s1, sf⟩ := cells2 hz1
      obtain ⟨f0, f1⟩ := store2 hz1 (.int .i64 p) (.slice ko n kc)
      have HO2 := Lib.hid ((HO.out.set (i := 1) (.slice ko n kc) Y0.out (by decide) (by decide)).set2 hz1 (.int .i64 p) (.slice ko n kc) (by decide) (by decide))
      have HB2 := Lib.hid (below2 (show Below w.heap.size w (wr.setCell ⟨w.heap.size, 1, none⟩ (.slice ko n kc)) from HB.out.setCell (Nat.le_refl _) _) hgn (.int .i64 p) (.slice ko n kc))
      clear hB hors hkeys hy1 hz1
      go_wp2
      refine bodyPost_ret (v := .agg #[.int .i64 p, .slice ko n kc]) (by simp [results, Try.results12, go_sem, f0, f1]) rfl ?_
      exact ⟨ko, kc, cs', rfl, HO2.out, HK2.out, HB2.out, HAP.out⟩
theorem twinmed_any (t : Tap) (w : World) (h : t.ok w) (hd : ∀ k, (hk : k < t.cs.length) → t.cs[k].d.l ≤ 1000000) (hm : t.n ≤ 1000000) :
    Calls Try.prog 12 #[.agg #[.int .i64 t.p, .slice t.a t.n t.c]] w (TPost w t.p t.n t.ks) :=
  (twinmed_all t w h hd hm).mono fun _ _ ⟨ko, kc, cs', h1, h2, h3, h4, _⟩ => ⟨ko, kc, cs', h1, h2, h3, h4⟩
end Go.Proofs.Ytmcbmemgeegodaa
