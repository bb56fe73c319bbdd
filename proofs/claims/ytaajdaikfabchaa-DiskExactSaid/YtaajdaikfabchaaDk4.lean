/-
  The disk: Read, Write.
-/
import Derived.Test.YtaajdaikfabchaaDk3
import Derived.Laws.MakeOwn
import Derived.Laws.OwnMore
import Derived.Deep.RegionLaw
namespace Go.Proofs.Ytaajdaikfabchaa
open Go.RowKit
set_option linter.unusedVariables false

/-- 256 bytes: those that there are, and noughts behind them. -/
def full (z : List Int) : List Int := z ++ List.replicate (256 - z.length) 0
theorem full_len {z : List Int} (h : z.length ≤ 256) : (full z).length = 256 := by unfold full; simp; omega
theorem full_bts {z : List Int} (h : Bts z) : Bts (full z) := by
  intro j hj
  unfold full at hj ⊢
  by_cases h1 : j < z.length
  · have := h j h1
    simpa [List.getD, List.getElem?_append_left h1] using this
  · rw [List.getD, List.getElem?_append_right (by omega)]
    simp at hj
    rw [List.getElem?_replicate]
    split <;> simp
theorem make_bytes (m : Nat) (hm : m ≤ 1000000) (w : World) : (Instr.makeSlice 36 (.int .i64 (m : Int)) (.int .i64 (m : Int))).run Try.prog w = .ok (.slice (some ⟨w.heap.size, 0, none⟩) m m) (w.alloc (.cells ((List.replicate m (Value.int .u8 0)).toArray) 5)) := by
  obtain ⟨i0, hi, hz0, hz1, hz2⟩ := info_parts Try.info5
  have hb : (i0.bytes : Int) * (m : Int) ≤ 281474976710656 := by rw [hz2]; omega
  have hr := run_make (P := Try.prog) w 36 5 i0 _ Try.underlying36 hi hz0 .i64 .i64 (m : Int) (m : Int) (by omega) (by omega) hb (by omega)
  simp only [Int.toNat_natCast] at hr
  rw [hz1, Nat.mul_one, show madeCells (Value.int .u8 0).cells m = (List.replicate m (Value.int .u8 0)).toArray from by
    rw [← toList_madeCells_one]; rfl] at hr
  exact hr
theorem make256 : ∃ ZZ : List Value, ZZ = (List.replicate 256 (Value.int .u8 0)) ∧ ∀ w : World, (Instr.makeSlice 36 (.int .i64 256) (.int .i64 256)).run Try.prog w = .ok (.slice (some ⟨w.heap.size, 0, none⟩) 256 256) (w.alloc (.cells ZZ.toArray 5)) :=
  ⟨_, rfl, fun w => make_bytes 256 (by omega) w⟩
/-- A block of bytes is a row of one's own. -/
theorem ow_of_blk {w : World} {g base n : Nat} {zs : List Int} (h : w.heap[g]? = some (.cells (zs.map (Value.int .u8)).toArray 5 (0, 0))) (hb : base ≤ g) (hn : zs.length = n) (hm : n ≤ 1000000) : Ow w base (some ⟨g, 0, none⟩) n n zs :=
  ⟨hn, Nat.le_refl _, by unfold maxLen; omega, by simp [hn], .inr ⟨g, n, _, rfl, hb, h, Nat.le_refl _, by unfold maxLen; omega, by simp [hn], by subst hn; simp [List.take_of_length_le]⟩⟩
theorem splice_full (z : List Int) (ZZ : List Value) (hZ : ZZ = List.replicate 256 (Value.int .u8 0)) (hl : z.length ≤ 256) : splice ZZ 0 (z.map (Value.int .u8)) = (full z).map (Value.int .u8) := by
  subst hZ
  unfold splice full
  rw [List.take_zero, List.nil_append, List.drop_replicate, List.map_append, List.map_replicate]
  simp

/-- What Read tells, of a disk that is awake. -/
def DS.get (D : DS) (off : Bool) (n : Nat) (i : Int) : Int × List Int := if off then (5, []) else if 0 ≤ i ∧ i < n then (if (D.ns.getD i.toNat Sec.none).t then (6, []) else (0, full (D.ns.getD i.toNat Sec.none).d.z)) else (1, [])
def RdR (w : World) (r : Int × List Int) (e : Ending) (w' : World) : Prop := ∃ ko kl kc, e = .returned (.tuple #[.slice ko kl kc, .int .i64 r.1]) ∧ Ow w' w.heap.size ko kl kc r.2
theorem Ow.none (w : World) (base : Nat) : Ow w base Option.none 0 0 [] := ⟨rfl, Nat.le_refl _, Nat.zero_le _, World.ownsRow_nil _ _ _ _⟩

set_option maxHeartbeats 2000000 in
theorem read_any {w0 w : World} {B Bp g gp n : Nat} {D : DS} {P : PP} (i : Int) (h : Sys w0 w B Bp g gp n D P) (hx6 : D.xs.length ≤ 1000000) :
    Calls Try.prog 14 #[.pointer (some ⟨g, 0, none⟩), .int .i64 i] w fun e w' => RdR w ((D.wake P).get P.off n i) e w' ∧ Sys w0 w' B Bp g gp n (D.wake P) P := by
  have HH := Lib.hid h
  have hwk := wake_any h.refl hx6
  obtain ⟨off, hof⟩ : ∃ off, off = P.off := ⟨_, rfl⟩
  rw [← hof] at hwk ⊢
  obtain ⟨D1, hD1⟩ : ∃ D1, D1 = D.wake P := ⟨_, rfl⟩
  rw [← hD1] at hwk ⊢
  have HW := Lib.hid hwk
  have HG : Hid (D1.get off n i = if off then (5, []) else if 0 ≤ i ∧ i < n then (if (D1.ns.getD i.toNat Sec.none).t then (6, []) else (0, full (D1.ns.getD i.toNat Sec.none).d.z)) else (1, [])) := rfl
  obtain ⟨G, hG⟩ : ∃ G, G = D1.get off n i := ⟨_, rfl⟩
  rw [← hG] at HG ⊢
  clear h hwk hof hD1 hG
  cases off with
  | true =>
    obtain rfl : G = (5, []) := HG.out
    go_enter Try.func14, Try.ntmps14
    go_wp2_with (go_at_call 34; refine HW.out.mono ?_; rintro e w1 ⟨rfl, hs⟩; have HS := Lib.hid hs; clear hs)
    go_ret2
    exact ⟨⟨none, 0, 0, rfl, Ow.none _ _⟩, HH.out.trans HS.out⟩
  | false =>
    by_cases hi : 0 ≤ i ∧ i < n
    · obtain ⟨hi0, hi1⟩ := hi
      obtain ⟨j, rfl⟩ := Int.eq_ofNat_of_zero_le hi0
      have hG2 : G = if (D1.ns.getD j Sec.none).t then (6, []) else (0, full (D1.ns.getD j Sec.none).d.z) := by
        have := HG.out
        rw [if_neg (by decide), if_pos ⟨hi0, hi1⟩, Int.toNat_natCast] at this
        exact this
      have hjn : j < n := by omega
      have HG2 := Lib.hid hG2
      clear HG hG2
      go_enter Try.func14, Try.ntmps14
      go_wp2_with (go_at_call 34; fail)
      refine HW.out.mono ?_
      rintro e w1 ⟨rfl, hs⟩
      have hhas := has_any (j : Int) hs
      rw [decide_eq_true (show (0 : Int) ≤ (j : Int) ∧ (j : Int) < (n : Int) from ⟨hi0, hi1⟩)] at hhas
      have HHAS := Lib.hid hhas
      have HS0 := Lib.hid hs
      obtain ⟨gn, gs, oo, k, oc, hs⟩ := hs
      have HS := Lib.hid hs
      clear hhas hs
      go_wp2_with (go_at_call 35; refine HHAS.out.mono ?_; rintro e w1 ⟨rfl, rfl⟩; fail)
      refine HHAS.out.mono ?_
      rintro e w2 ⟨rfl, rfl⟩
      obtain ⟨c0, c1, c2, c3, c4, fg, fn, fs⟩ := HS.out.d.c
      have hjl : j < D1.ns.length := by rw [HS.out.d.ln]; exact hjn
      obtain ⟨z0, z1⟩ := HS.out.d.now.sec hjl
      obtain ⟨s, hss⟩ : ∃ s, s = D1.ns[j] := ⟨_, rfl⟩
      have hsd : D1.ns.getD j Sec.none = s := by rw [hss]; simp [List.getD, hjl]
      have hds : Dat w1 B s.d := HS.out.d.dn s (by rw [hss]; exact List.getElem_mem _)
      rw [← hss] at z0 z1
      have hG3 := HG2.out
      rw [hsd] at hG3
      obtain ⟨⟨sa, sl, sc, sz⟩, st⟩ := s
      have HG3 := Lib.hid hG3; have HDS := Lib.hid hds
      simp only at z0 z1 HG3 HDS
      clear hjl hss hsd hds hG3 HG2
      cases st with
      | true =>
        obtain rfl : G = (6, []) := HG3.out
        go_wp2
        go_ret2
        exact ⟨⟨none, 0, 0, rfl, Ow.none _ _⟩, HH.out.trans HS0.out⟩
      | false =>
        obtain rfl : G = (0, full sz) := HG3.out
        obtain ⟨ZZ, hZZ, hmk⟩ := make256
        have hZl : ZZ.length = 256 := by rw [hZZ, List.length_replicate]
        have hsl : sz.length = sl ∧ sl ≤ 256 ∧ Rd w1 sa sz ∧ Bts sz ∧ (0 < sl → ∃ b, sa = some ⟨b, 0, none⟩) := by
          rcases HDS.out with hd | ⟨hd1, hd2, gd, hd3, _⟩
          · unfold Part.none at hd
            simp only [Part.mk.injEq] at hd
            obtain ⟨rfl, rfl, rfl, rfl⟩ := hd
            exact ⟨rfl, by omega, .inl rfl, Bts.nil, fun h => by omega⟩
          · exact ⟨hd2.1.len, Nat.le_of_eq hd1, hd2.1.rd, hd2.1.bts, fun _ => ⟨gd, hd3⟩⟩
        have hB1 : Below w1.heap.size w1 (w1.alloc (.cells ZZ.toArray 5)) := (Below.refl _ _).alloc (Nat.le_refl _) _
        have hs1 := HS.out.alloc (.cells ZZ.toArray 5)
        have hrd := hsl.2.2.1.below hB1
        obtain ⟨e0, e1, e2, e3, e4, eg, en, es⟩ := hs1.d.c
        have y0 : (w1.alloc (.cells ZZ.toArray 5)).cell? ⟨gn, j * 2, none⟩ = some (.slice sa sl sc) := by rw [hB1.cell (cell_lt z0)]; exact z0
        have HSL := Lib.hid hsl; have HRD := Lib.hid hrd; have HB1 := Lib.hid hB1; have HS1 := Lib.hid hs1; have HZZ := Lib.hid hZZ; have HZL := Lib.hid hZl
        have HG1 : Hid ((w1.alloc (.cells ZZ.toArray 5)).heap[w1.heap.size]? = some (.cells ZZ.toArray 5 (0, 0))) := heap_alloc_new _ _
        have C1 : Hid ((sz.map (Value.int .u8)).length = Nat.min sl 256) := by
          show (sz.map (Value.int .u8)).length = min sl 256
          have := HSL.out; rw [List.length_map]; omega
        have C2 : Hid (0 < (sz.map (Value.int .u8)).length → ∃ ad, sa = some ad ∧ ∀ j v, (sz.map (Value.int .u8))[j]? = some v → (w1.alloc (.cells ZZ.toArray 5)).cell? (ad.add j) = some v) := fun h0 => by
          have hl := HSL.out.1
          obtain ⟨b, hb⟩ := HSL.out.2.2.2.2 (by simp at h0; omega)
          exact ⟨⟨b, 0, none⟩, hb, HRD.out.cells _ hb⟩
        have C3 : Hid (0 + (sz.map (Value.int .u8)).length ≤ ZZ.length) := by
          show _ ≤ _
          have := HSL.out; have := HZL.out; simp; omega
        clear hZZ hsl hB1 hs1 hrd hZl
        go_wp2_with ((with_reducible refine wpList_copy_splice rfl (.tmp 23) (.tmp 31) 36 36 rfl 5 Try.underlying36 (by kernel_rfl) _ _ _ _ _ _ rfl rfl w1.heap.size 0 ZZ 5 HG1.out (sz.map (Value.int .u8)) C1.out (fun h0 => ⟨rfl, C2.out h0⟩) C3.out (ints_oneCell _ _) w1.heap.size w1 HB1.out (Nat.le_refl _) ?_); intro w5 hg5 hB5; have HG5 := Lib.hid hg5; have HB5 := Lib.hid hB5; clear hg5 hB5)
        go_wp2
        go_ret2
        have hfin : Ow w5 w.heap.size (some ⟨w1.heap.size, 0, none⟩) 256 256 (full sz) := by
          have := HG5.out.out
          rw [splice_full sz ZZ HZZ.out (by have := HSL.out; omega)] at this
          exact ow_of_blk this HS0.out.kt.size (full_len (by have := HSL.out; omega)) (by omega)
        exact ⟨⟨_, 256, 256, rfl, hfin⟩, HH.out.trans (HS0.out.below HB5.out)⟩
    · obtain rfl : G = (1, []) := by
        have := HG.out
        rw [if_neg (by decide), if_neg hi] at this
        exact this
      have HI := Lib.hid hi
      clear HG hi
      go_enter Try.func14, Try.ntmps14
      go_wp2_with (go_at_call 34; fail)
      refine HW.out.mono ?_
      rintro e w1 ⟨rfl, hs⟩
      have hhas := has_any i hs
      rw [decide_eq_false HI.out] at hhas
      have HHAS := Lib.hid hhas
      have HS0 := Lib.hid hs
      clear hhas hs
      go_wp2_with (go_at_call 35; refine HHAS.out.mono ?_; rintro e w2 ⟨rfl, rfl⟩)
      go_ret2
      exact ⟨⟨none, 0, 0, rfl, Ow.none _ _⟩, HH.out.trans HS0.out⟩

end Go.Proofs.Ytaajdaikfabchaa
