/-
  The padding taken in.
-/
import Derived.Test.YtdpnkdliibccjaaDoorAdd
namespace Go.Proofs.YtdpnkdliibccjaaDoor
open Go.RowKit
set_option linter.unusedVariables false

/-- New bytes. -/
def zeros (n : Nat) : List Value := List.replicate n (.int .u8 0)
theorem made_zeros (n : Nat) : (madeCells (Value.int .u8 0).cells (n * 1)).toList = zeros n := by
  simp [madeCells, Value.cells, zeros]
  have h : (fun x => (#[Value.int IntKind.u8 0] : Array Value)[x % 1]?.getD default) = fun _ => Value.int .u8 0 := by
    funext x; simp [Nat.mod_one]
  have h' : (fun x => ([Value.int IntKind.u8 0] : List Value)[x % 1]?.getD default) = fun _ => Value.int .u8 0 := by
    funext x; simp [Nat.mod_one]
  first | rw [h] | rw [h']
  exact List.eq_replicate_iff.2 ⟨by simp, by simp⟩
theorem made_block {w : World} {base e g n : Nat} (h : w.ownsRow base e 1 (.slice (some ⟨g, 0, none⟩) n n) n (madeCells (Value.int .u8 0).cells (n * 1)).toList) : w.heap[g]? = some (.cells (zeros n).toArray e (0, 0)) := by
  rw [made_zeros] at h
  exact block_of_owns h
theorem zeros_ints (n : Nat) : zeros n = (List.replicate n (0 : Int)).map (Value.int .u8) := by simp [zeros]
theorem bts_zeros (n : Nat) : Bts (List.replicate n (0 : Int)) := fun j hj => by
  simp at hj
  simp [List.getD, hj]
theorem wb_bts (x : BitVec 32) : Bts (wb x) := fun j hj => by
  match j, hj with
  | 0, _ => simp [wb, List.getD]; omega
  | 1, _ => simp [wb, List.getD]; omega
  | 2, _ => simp [wb, List.getD]; omega
  | 3, _ => simp [wb, List.getD]; omega
theorem be8_words (n : Nat) (h : n < 18446744073709551616) : be8 n = wb (BitVec.ofNat 32 (n / 4294967296)) ++ wb (BitVec.ofNat 32 n) := by
  simp only [be8, wb, List.range, List.range.loop, List.map_cons, List.map_nil, BitVec.toNat_ofNat, List.cons_append, List.nil_append]
  congr 1
  · omega
  congr 1
  · omega
  congr 1
  · omega
  congr 1
  · omega
  congr 1
  · omega
  congr 1
  · omega
  congr 1
  · omega
  congr 1
  omega
theorem splice_two (Z A B : List Value) (ha : A.length = 4) (hb : B.length = 4) (hz : Z.length = 8) : splice (splice Z 0 A) 4 B = A ++ B := by
  have e1 : splice Z 0 A = A ++ Z.drop 4 := by unfold splice; simp [ha]
  rw [e1]
  unfold splice
  rw [← ha, List.take_left, hb, List.drop_eq_nil_of_le (by simp [ha, hz]), List.append_nil]

set_option maxRecDepth 100000 in
set_option maxHeartbeats 2000000 in
theorem fin_ok (g : Nat) (m : List Int) (w : World) (hT : Tab w) (hg2 : 2 ≤ g) (hd : Dg w g m m.length) (hN : m.length ≤ 100000000) :
    Calls Tryd.prog 18 #[.pointer (some ⟨g, 0, none⟩)] w fun e w' => e = .returned (.tuple #[]) ∧ (∃ bl f n, Blk w' g 42 (dcs (hs (padd m) ((padd m).length / 64)) bl f n)) ∧ Near g w w' := by
  obtain ⟨i0, hi, hz0, hz1, hz2⟩ := info_parts Tryd.info5
  have HI := Lib.hid (And.intro hi (And.intro hz0 (And.intro hz1 hz2)))
  have hlt := hd.lt
  obtain ⟨N, hNN⟩ : ∃ N, N = m.length := ⟨_, rfl⟩
  rw [← hNN] at hd hN
  have c73 : w.cell? ⟨g, 73, none⟩ = some (.int .u64 (N : Int)) := by
    obtain ⟨s, bl, h1, h2⟩ := hd
    rw [h2.cell (by rw [dcs_len _ _ _ _ h1.len]; omega), dcs_num _ _ _ _ h1.len]
  obtain ⟨hi32, hhi⟩ : ∃ u : BitVec 32, u = BitVec.ofNat 32 (8 * N / 4294967296) := ⟨_, rfl⟩
  obtain ⟨lo32, hlo⟩ : ∃ u : BitVec 32, u = BitVec.ofNat 32 (8 * N) := ⟨_, rfl⟩
  have ehi : ((N : Int) * 8 / 4294967296) = (hi32.toNat : Int) := by rw [hhi, BitVec.toNat_ofNat]; omega
  have elo : ((N : Int) * 8) = (lo32.toNat : Int) := by rw [hlo, BitVec.toNat_ofNat]; omega
  have hhb : hi32.toNat < 4294967296 := hi32.isLt
  have HEL := Lib.hid elo
  obtain ⟨W1, hW1⟩ : ∃ W1, W1 = w.alloc (.cells #[.int .u8 128] 5) := ⟨_, rfl⟩
  have hB1 : Below w.heap.size w W1 := by rw [hW1]; exact (Below.refl _ _).alloc (Nat.le_refl _) _
  have hR1 : Rd W1 (some ⟨w.heap.size, 0, none⟩) [128] := by rw [hW1]; exact Rd.block (t := 5) (zs := [128]) (heap_alloc_new _ _)
  have HA1 := Lib.hid (add_ok g m N (some ⟨w.heap.size, 0, none⟩) 1 1 [128] W1 (hT.below hB1) hg2 (hd.below hB1) rfl (Nat.le_refl _) (by unfold maxLen; omega) hR1 (fun j hj => by match j, hj with | 0, _ => decide) (fun _ ad h => by cases h; show w.heap.size ≠ g; omega) (by omega))
  have HW1 := Lib.hid hW1; have HB1 := Lib.hid hB1; have HT := Lib.hid hT; have HNN := Lib.hid hNN; have HHI := Lib.hid hhi; have HLO := Lib.hid hlo
  clear elo hW1 hB1 hR1 hd hi hz0 hz1 hz2 hT hNN hhi hlo
  go_enter Tryd.func18, Tryd.ntmps18
  go_wp2_with (go_at_call 17; fail)
  rw [← HW1.out]
  refine HA1.out.mono ?_
  rintro e w1 ⟨rfl, hd1, hn1⟩
  have HN1 : Hid (Near g w w1) := (Near.of_below HB1.out).trans hn1
  obtain ⟨f, hf⟩ : ∃ f, f = (m ++ [128]).length % 64 := ⟨_, rfl⟩
  have hf64 : f < 64 := by rw [hf]; exact Nat.mod_lt _ (by decide)
  have c72 : w1.cell? ⟨g, 72, none⟩ = some (.int .i64 (f : Int)) := by
    obtain ⟨s, bl, h1, h2⟩ := hd1
    rw [h2.cell (by rw [dcs_len _ _ _ _ h1.len]; omega), dcs_fill _ _ _ _ h1.len, hf]
  have ezn : ((120 : Int) - (f : Int)) % 64 = (zn m.length : Int) := by
    rw [hf, List.length_append]
    unfold zn
    show ((120 : Int) - (((m.length + 1) % 64 : Nat) : Int)) % 64 = (((119 - m.length % 64) % 64 : Nat) : Int)
    omega
  obtain ⟨Z, hZ⟩ : ∃ Z, Z = zn m.length := ⟨_, rfl⟩
  rw [← hZ] at ezn
  have hZ64 : Z < 64 := by rw [hZ]; exact Nat.mod_lt _ (by decide)
  have HD1 := Lib.hid hd1; have HZ := Lib.hid hZ
  clear hd1 hn1 hf hZ
  go_wp2_with (first
    | (at_make; refine wpList_make_full _ rfl (.tmp 20) (.tmp 20) 28 rfl w1.heap.size 5 i0 (.int .u8 0) 1 Tryd.underlying28 HI.out.1 HI.out.2.1 HI.out.2.2.1 .i64 .i64 _ _ Z rfl rfl ezn ezn (by rw [HI.out.2.2.2]; omega) (by unfold maxLen; omega) (Nat.le_refl _) ?_; intro w2 hown2 hgrow2; have HB2 := Lib.hid (made_block hown2); have HG2 := Lib.hid (Below.grown (Below.refl _ _) hgrow2 (Nat.le_refl _) (fun k h => by cases h)); clear hown2 hgrow2)
    | (go_at_call 17; fail))
  have hz2 : Rd w2 (some ⟨w1.heap.size, 0, none⟩) (List.replicate Z 0) := by
    have := HB2.out
    rw [zeros_ints] at this
    exact Rd.block this
  have HT2 : Hid (Tab w2) := (HN1.out.tab HT.out hg2).below HG2.out
  have hgs : g < w1.heap.size := Nat.lt_of_lt_of_le hlt HN1.out.size
  have HGS := Lib.hid hgs
  have HA2 := Lib.hid (add_ok g (m ++ [128]) (N + 1) (some ⟨w1.heap.size, 0, none⟩) Z Z (List.replicate Z 0) w2 HT2.out hg2 (HD1.out.below HG2.out) (by simp) (Nat.le_refl _) (by unfold maxLen; omega) hz2 (bts_zeros Z) (fun _ ad h => by cases h; show w1.heap.size ≠ g; omega) (by omega))
  clear hz2 hgs
  refine HA2.out.mono ?_
  rintro e w3 ⟨rfl, hd3, hn3⟩
  have HN3 : Hid (Near g w w3) := (HN1.out.trans (Near.of_below HG2.out)).trans hn3
  have HD3 := Lib.hid hd3
  have hg3 : g < w3.heap.size := Nat.lt_of_lt_of_le hlt HN3.out.size
  have HT3 : Hid (Tab w3) := HN3.out.tab HT.out hg2
  clear hd3 hn3 ezn c72 c73 HN1 HD1 HA2 HT2 HB2 HG2
  have hca := fun V => cut_all arr49 V w3.heap.size 0 (by omega)
  have hc4 := fun V => cut_arr arr49 V w3.heap.size 0 4 4 rfl (by omega)
  have HG3 := Lib.hid hg3
  clear hg3
  go_wp2_with (go_at_call 19; fail)
  have HP1 := Lib.hid (put_ok w3.heap.size 0 8 8 49 (zeros 8) hi32 (w3.alloc (.cells (zeros 8).toArray 49)) (Blk.new w3 (zeros 8) 49) (by omega) (by omega) (by decide))
  refine HP1.out.mono ?_
  rintro e w4 ⟨rfl, hb4, ho4⟩
  have HB4 := Lib.hid hb4; have HO4 := Lib.hid ho4
  clear hb4 ho4
  have hp2 := put_ok w3.heap.size 4 4 4 49 _ lo32 w4 HB4.out (by omega) (by omega) (by rw [splice_len _ _ _ (by simp [wb, zeros])]; decide)
  rw [← HEL.out] at hp2
  have HP2 := Lib.hid hp2
  clear hp2
  go_wp2_with (go_at_call 19; fail)
  refine HP2.out.mono ?_
  rintro e w5 ⟨rfl, hb5, ho5⟩
  have hb5' : Blk w5 w3.heap.size 49 ((wb hi32 ++ wb lo32).map (Value.int .u8)) := by
    rw [splice_two _ _ _ rfl rfl rfl, ← List.map_append] at hb5
    exact hb5
  have hnew : Near g w3 w5 := (((Near.of_below ((Below.refl _ _).alloc (Nat.le_refl _) _)).of_new HO4.out (Nat.le_refl _)).of_new ho5 (Nat.le_refl _))
  have hne3 : g ≠ w3.heap.size := by have := HG3.out; omega
  have hd5 : Dg w5 g (m ++ [128] ++ List.replicate Z 0) (N + 1 + Z) := by
    have h1 : Near w3.heap.size (w3.alloc (.cells (zeros 8).toArray 49)) w5 := (Near.of_only HO4.out).trans (Near.of_only ho5)
    exact (HD3.out.below ((Below.refl _ _).alloc (Nat.le_refl _) _)).near h1 hne3
  have HN5 : Hid (Near g w w5) := HN3.out.trans hnew
  have HA3 := Lib.hid (add_ok g _ (N + 1 + Z) (some ⟨w3.heap.size, 0, none⟩) 8 8 (wb hi32 ++ wb lo32) w5 (HN5.out.tab HT.out hg2) hg2 hd5 rfl (Nat.le_refl _) (by unfold maxLen; omega) (Rd.block hb5') (Bts.append (wb_bts _) (wb_bts _)) (fun _ ad h => by cases h; exact fun e => hne3 e.symm) (by omega))
  clear hb5 ho5 hb5' hnew hne3 hd5 hc4
  go_wp2_with (go_at_call 17; fail)
  refine HA3.out.mono ?_
  rintro e w6 ⟨rfl, hd6, hn6⟩
  have HN6 : Hid (Near g w w6) := HN5.out.trans hn6
  have hpad : m ++ [128] ++ List.replicate Z 0 ++ (wb hi32 ++ wb lo32) = padd m := by
    unfold padd
    rw [be8_words _ (by rw [← HNN.out]; omega), ← HNN.out, ← HHI.out, ← HLO.out, HNN.out, ← HZ.out]
    simp only [List.append_assoc]
  rw [hpad] at hd6
  have HD6 : Hid (∃ bl f n, Blk w6 g 42 (dcs (hs (padd m) ((padd m).length / 64)) bl f n)) := by
    obtain ⟨s, bl, h1, h2⟩ := hd6
    rw [h1.st] at h2
    exact ⟨bl, _, _, h2⟩
  clear hd6 hn6 hpad
  go_wp2
  go_end0
  exact ⟨rfl, HD6.out, HN6.out⟩
end Go.Proofs.YtdpnkdliibccjaaDoor
