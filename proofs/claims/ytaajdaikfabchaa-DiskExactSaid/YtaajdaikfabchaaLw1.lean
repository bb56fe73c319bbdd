/-
  The laws of the disk: fill, sector, what is written over, wakes.
-/
import Derived.Test.YtaajdaikfabchaaDk7
import Derived.Deep.Cut
namespace Go.Proofs.Ytaajdaikfabchaa
open Go.RowKit
set_option linter.unusedVariables false

theorem ow_new256 (w : World) (ZZ : List Value) (hZ : ZZ = List.replicate 256 (Value.int .u8 0)) : Ow (w.alloc (.cells ZZ.toArray 5)) w.heap.size (some ⟨w.heap.size, 0, none⟩) 256 256 (List.replicate 256 0) := by
  subst hZ
  refine ow_of_blk ?_ (Nat.le_refl _) List.length_replicate (by omega)
  rw [List.map_replicate]
  exact heap_alloc_new _ _

theorem fill_any (b : Int) (w : World) (h0 : 0 ≤ b) (h1 : b ≤ 255) : Calls Try.prog 32 #[.int .u8 b] w (R1 w 256 (List.replicate 256 b)) := by
  obtain ⟨ZZ, hZZ, hmk⟩ := make256
  have hO := ow_new256 w ZZ hZZ
  have hB : Below w.heap.size w (w.alloc (.cells ZZ.toArray 5)) := (Below.refl _ _).alloc (Nat.le_refl _) _
  obtain ⟨Z0, hZ0⟩ : ∃ Z0, Z0 = List.replicate 256 (0 : Int) := ⟨_, rfl⟩
  obtain ⟨R, hR⟩ : ∃ R, R = List.replicate 256 b := ⟨_, rfl⟩
  rw [← hZ0] at hO
  rw [← hR]
  have HO := Lib.hid hO; have HB := Lib.hid hB; have HR := Lib.hid hR
  clear hO hB hZZ hZ0 hR
  go_enter Try.func32, Try.ntmps32
  go_wp2
  go_loopw [4] (fun i wr => ∃ (k : Nat) (zs : List Int), k ≤ 256 ∧ i = .int .i64 k ∧ Ow wr w.heap.size (some ⟨w.heap.size, 0, none⟩) 256 256 zs ∧ (∀ j, j < k → zs.getD j 0 = b) ∧ Below w.heap.size w wr) (fun i _ => 256 - (intOf i).toNat)
  case atStart => exact ⟨0, _, Nat.zero_le _, rfl, HO.out, fun j hj => absurd hj (Nat.not_lt_zero _), HB.out⟩
  case round =>
    obtain ⟨k, zs, hk, rfl, how, hzs, hB⟩ := hrel
    clear hmk
    by_cases hlt : k < 256
    · have d1 : decide ((k : Int) < 256) = true := decide_eq_true (by omega)
      have hzl := how.1
      obtain ⟨c, hc⟩ : ∃ v, wr.cell? ⟨w.heap.size, k, none⟩ = some v := by
        rcases how.rd with h | ⟨b', o, hb', hcell⟩
        · rw [h] at hzl; simp at hzl
        · cases hb'
          have := hcell k (by omega)
          rw [Nat.zero_add] at this
          exact ⟨_, this⟩
      have hf : wr.frozen? ⟨w.heap.size, k, none⟩ = false := by
        rcases how.2.2.2.2 with ⟨q, _⟩ | ⟨g, cap, cur, q, _, hh, _⟩
        · cases q
        · simp only [Value.slice.injEq, Option.some.injEq, Addr.mk.injEq, and_true] at q
          obtain ⟨rfl, _⟩ := q
          simp [World.frozen?, hh]
      have i1 : (0 : Int) ≤ (k : Int) := by omega
      have i2 : (k : Int) < 256 := by omega
      have HOW := Lib.hid how; have HZS := Lib.hid hzs; have HBR := Lib.hid hB; have HZL := Lib.hid hzl
      clear how hzs hB hzl
      go_wp2
      go_roundw
      case rel =>
        refine ⟨k + 1, _, by omega, by go_num, ow_store (j := k) (x := b) HOW.out, fun j hj => ?_, HBR.out.setCell (Nat.le_refl _) _⟩
        by_cases e : j = k
        · subst e
          have := HZL.out
          simp [List.getD, show j < zs.length by omega]
        · have := HZS.out j (by omega)
          simpa [List.getD, List.getElem?_set_ne (Ne.symm e)] using this
      case measure => simp [intOf]; omega
    · have d1 : decide ((k : Int) < 256) = false := decide_eq_false (by omega)
      obtain rfl : k = 256 := by omega
      have hz : zs = List.replicate 256 b := by
        apply List.ext_getElem
        · rw [how.1, List.length_replicate]
        · intro j h1 h2
          have := hzs j (by rw [how.1] at h1; exact h1)
          rw [List.getD, List.getElem?_eq_getElem h1, Option.getD_some] at this
          rw [this, List.getElem_replicate]
      rw [← HR.out] at hz
      subst hz
      have HOW := Lib.hid how; have HBR := Lib.hid hB
      clear how hzs hB
      go_wp2
      go_ret
      exact ⟨_, _, rfl, HOW.out, HBR.out⟩

/-- A sector's bytes: as many as go in, noughts behind them. -/
def secB (z : List Int) : List Int := full (z.take 256)
theorem secB_len (z : List Int) : (secB z).length = 256 := full_len (by simp; omega)
theorem secB_bts {z : List Int} (h : Bts z) : Bts (secB z) := full_bts (h.take _)
theorem sector_any (k1 k2 k3 : Int) (ao : Option Addr) (l c : Nat) (kv : Value) (k4 : Int) (z : List Int) (w : World) (hp : Part.ok w ⟨ao, l, c, z⟩) :
    Calls Try.prog 28 #[.agg #[.int .i64 k1, .int .i64 k2, .int .i64 k3, .slice ao l c, .bool false, kv, .int .i64 k4]] w (R1 w 256 (secB z)) := by
  obtain ⟨ZZ, hZZ, hmk⟩ := make256
  have hZl : ZZ.length = 256 := by rw [hZZ, List.length_replicate]
  obtain ⟨hrd, hlen, hb, hs, hn, hr⟩ := hp
  simp only at hrd hlen hb hs hn hr
  obtain ⟨W1, hW1⟩ : ∃ W1, W1 = w.alloc (.cells #[.int .i64 k1, .int .i64 k2, .int .i64 k3, .slice ao l c, .bool false, kv, .int .i64 k4] 39) := ⟨_, rfl⟩
  have hB1 : Below w.heap.size w W1 := by rw [hW1]; exact (Below.refl _ _).alloc (Nat.le_refl _) _
  have hx1 : W1.heap[w.heap.size]? = some (.cells #[.int .i64 k1, .int .i64 k2, .int .i64 k3, .slice ao l c, .bool false, kv, .int .i64 k4] 39) := by rw [hW1]; exact heap_alloc_new _ _
  have hlt1 : w.heap.size < W1.heap.size := (Array.getElem?_eq_some_iff.1 hx1).1
  have hB2 : Below W1.heap.size W1 (W1.alloc (.cells ZZ.toArray 5)) := (Below.refl _ _).alloc (Nat.le_refl _) _
  have hx2 : (W1.alloc (.cells ZZ.toArray 5)).heap[w.heap.size]? = some (.cells #[.int .i64 k1, .int .i64 k2, .int .i64 k3, .slice ao l c, .bool false, kv, .int .i64 k4] 39) := by rw [hB2.block _ hlt1]; exact hx1
  have y3 : (W1.alloc (.cells ZZ.toArray 5)).cell? ⟨w.heap.size, 3, none⟩ = some (.slice ao l c) := by simp only [World.cell?, hx2]; rfl
  have y4 : W1.cell? ⟨w.heap.size, 4, none⟩ = some (.bool false) := by simp only [World.cell?, hx1]; rfl
  have HRD := Lib.hid ((hrd.below hB1).below hB2)
  have HW1 := Lib.hid hW1
  have HG1 : Hid ((W1.alloc (.cells ZZ.toArray 5)).heap[W1.heap.size]? = some (.cells ZZ.toArray 5 (0, 0))) := heap_alloc_new _ _
  have C1 : Hid (((z.take 256).map (Value.int .u8)).length = Nat.min l 256) := by
    show _ = min l 256
    rw [List.length_map, List.length_take]; omega
  have C2 : Hid (0 < ((z.take 256).map (Value.int .u8)).length → ∃ ad, ao = some ad ∧ ∀ j v, ((z.take 256).map (Value.int .u8))[j]? = some v → (W1.alloc (.cells ZZ.toArray 5)).cell? (ad.add j) = some v) := fun h0 => by
    obtain ⟨b, o, hb', _⟩ := hrd.at (by simp at h0; omega)
    exact ⟨⟨b, o, none⟩, hb', (HRD.out.take 256).cells _ hb'⟩
  have C3 : Hid (0 + ((z.take 256).map (Value.int .u8)).length ≤ ZZ.length) := by
    show _ ≤ _
    rw [hZl, List.length_map, List.length_take]; omega
  have HB1 := Lib.hid hB1; have HB2 := Lib.hid hB2; have HZZ := Lib.hid hZZ; have HLT := Lib.hid hlt1
  have HB := Lib.hid hB2
  obtain ⟨cs, hcs⟩ : ∃ cs, cs = (z.take 256).map (Value.int .u8) := ⟨_, rfl⟩
  rw [← hcs] at C1 C2 C3
  have HOC : Hid (∀ v ∈ cs, v.oneCell' = true) := by
    show ∀ v ∈ cs, v.oneCell' = true
    rw [hcs]; exact ints_oneCell _ _
  have HCS := Lib.hid hcs
  clear hrd hlen hb hs hn hr hB1 hx1 hB2 hx2 hZZ hZl hlt1 hcs
  obtain ⟨R, hR⟩ : ∃ R, R = secB z := ⟨_, rfl⟩
  rw [← hR]
  have HR := Lib.hid hR
  have Y3 := Lib.hid y3; have Y4 := Lib.hid y4
  clear y3 y4 hR hW1
  go_enter Try.func28, Try.ntmps28
  go_upto_region 1 with (fail)
  rw [← HW1.out]
  have y4 := Y4.out; have y3 := Y3.out
  go_wp2_with ((with_reducible refine wpList_copy_splice rfl (.tmp 9) (.tmp 11) 36 36 rfl 5 Try.underlying36 (by kernel_rfl) _ _ _ _ _ _ rfl rfl W1.heap.size 0 ZZ 5 HG1.out cs C1.out (fun h0 => ⟨rfl, C2.out h0⟩) C3.out HOC.out W1.heap.size W1 HB2.out (Nat.le_refl _) ?_); intro w5 hg5 hB5; have HG5 := Lib.hid hg5; have HB5 := Lib.hid hB5; clear hg5 hB5)
  go_ret
  have hfin : Ow w5 w.heap.size (some ⟨W1.heap.size, 0, none⟩) 256 256 R := by
    have := HG5.out.out
    rw [HCS.out, splice_full (z.take 256) ZZ HZZ.out (by simp; omega)] at this
    rw [HR.out]
    exact ow_of_blk this HB1.out.size (secB_len z) (by omega)
  exact ⟨_, 256, rfl, hfin, HB1.out.trans (HB5.out.mono HB1.out.size)⟩

end Go.Proofs.Ytaajdaikfabchaa
