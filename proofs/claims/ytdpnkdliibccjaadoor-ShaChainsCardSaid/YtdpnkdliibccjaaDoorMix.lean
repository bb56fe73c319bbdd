/-
  A block mixed in.
-/
import Derived.Test.YtdpnkdliibccjaaDoorSched
namespace Go.Proofs.YtdpnkdliibccjaaDoor
open Go.RowKit
set_option linter.unusedVariables false

/-- The tables in memory. -/
def Tab (w : World) : Prop := (∀ k, k < 8 → w.cell? ⟨0, k, none⟩ = some (.int .u32 ((st0.l.getD k 0#32).toNat : Int))) ∧ (∀ k, k < 64 → w.cell? ⟨1, k, none⟩ = some (.int .u32 ((kk k).toNat : Int)))
theorem Tab.below {w w' : World} (h : Tab w) (hB : Below w.heap.size w w') : Tab w' :=
  ⟨fun k hk => by rw [hB.cell (cell_lt (h.1 k hk))]; exact h.1 k hk, fun k hk => by rw [hB.cell (cell_lt (h.2 k hk))]; exact h.2 k hk⟩
/-- Of the old blocks g alone has been written. -/
structure Near (g : Nat) (w w' : World) : Prop where
  os : w'.os = w.os
  tape : w'.tape = w.tape
  output : w'.output = w.output
  size : w.heap.size ≤ w'.heap.size
  block : ∀ k, k < w.heap.size → k ≠ g → w'.heap[k]? = w.heap[k]?
theorem Near.refl (g : Nat) (w : World) : Near g w w := ⟨rfl, rfl, rfl, Nat.le_refl _, fun _ _ _ => rfl⟩
theorem Near.trans {g : Nat} {a b c : World} (h : Near g a b) (k : Near g b c) : Near g a c :=
  ⟨k.os.trans h.os, k.tape.trans h.tape, k.output.trans h.output, Nat.le_trans h.size k.size, fun i hi hn => (k.block i (Nat.lt_of_lt_of_le hi h.size) hn).trans (h.block i hi hn)⟩
theorem Near.of_below {g : Nat} {w w' : World} (h : Below w.heap.size w w') : Near g w w' := ⟨h.os, h.tape, h.output, h.size, fun k hk _ => h.block k hk⟩
theorem Near.of_only {g : Nat} {w w' : World} (h : Only g w w') : Near g w w' := ⟨h.os, h.tape, h.output, Nat.le_of_eq h.size.symm, fun k _ hn => h.block k hn⟩
/-- A block made since has been written. -/
theorem Near.of_new {g g' : Nat} {a w w' : World} (h : Near g a w) (ho : Only g' w w') (hg : a.heap.size ≤ g') : Near g a w' :=
  ⟨ho.os.trans h.os, ho.tape.trans h.tape, ho.output.trans h.output, by rw [ho.size]; exact h.size, fun k hk hn => (ho.block k (by omega)).trans (h.block k hk hn)⟩
theorem Near.below {g B : Nat} {a w w' : World} (h : Near g w w') (hb : Below B a w) (hB : B ≤ g) (hs : B ≤ w.heap.size) : Below B a w' :=
  hb.trans ⟨h.os, h.tape, h.output, h.size, fun k hk => h.block k (by omega) (by omega)⟩
theorem Near.blk {g k t : Nat} {w w' : World} {L : List Value} (h : Near g w w') (hb : Blk w k t L) (hn : k ≠ g) : Blk w' k t L := (h.block k hb.lt hn).trans hb
theorem Near.cell {g : Nat} {w w' : World} (h : Near g w w') {a : Addr} {v : Value} (hc : w.cell? a = some v) (hn : a.block ≠ g) : w'.cell? a = some v := by
  have hb := h.block a.block (cell_lt hc) hn
  have : w'.cell? a = w.cell? a := World.cell?_of_block (w := w) hb
  rw [this]; exact hc
theorem Near.tab {g : Nat} {w w' : World} (h : Near g w w') (hT : Tab w) (hg : 2 ≤ g) : Tab w' :=
  ⟨fun k hk => h.cell (hT.1 k hk) (by show 0 ≠ g; omega), fun k hk => h.cell (hT.2 k hk) (by show 1 ≠ g; omega)⟩
theorem Near.rd {g : Nat} {w w' : World} {ao : Option Addr} {zs : List Int} (h : Near g w w') (hr : Rd w ao zs) (hn : zs ≠ [] → ∀ ad, ao = some ad → ad.block ≠ g) : Rd w' ao zs := by
  rcases hr with hr | ⟨b, o, ha, hc⟩
  · exact .inl hr
  · exact .inr ⟨b, o, ha, fun j hj => h.cell (hc j hj) (hn (fun e => by rw [e] at hj; exact absurd hj (Nat.not_lt_zero _)) ⟨b, o, none⟩ ha)⟩

/-- The digest's cells. -/
def dcs (s : St) (bl : List Int) (f n : Int) : List Value := s.l.map uv ++ (bl.map (Value.int .u8) ++ [.int .i64 f, .int .u64 n])
theorem dcs_len (s : St) (bl : List Int) (f n : Int) (h : bl.length = 64) : (dcs s bl f n).length = 74 := by simp [dcs, St.l, h]
theorem dcs_words (s : St) (bl : List Int) (f n : Int) : dcs s bl f n = [uv s.a, uv s.b, uv s.c, uv s.d, uv s.e, uv s.f, uv s.g, uv s.h] ++ (bl.map (Value.int .u8) ++ [.int .i64 f, .int .u64 n]) := rfl
theorem dcs_byte (s : St) (bl : List Int) (f n : Int) (h : bl.length = 64) (j : Nat) (hj : j < 64) : (dcs s bl f n).getD (8 + j) undef = .int .u8 (bl.getD j 0) := by
  have hw : (s.l.map uv).length = 8 := rfl
  unfold dcs
  simp only [List.getD]
  rw [List.getElem?_append_right (by omega), hw, Nat.add_sub_cancel_left, List.getElem?_append_left (by simp; omega)]
  simp [h, hj]
theorem dcs_fill (s : St) (bl : List Int) (f n : Int) (h : bl.length = 64) : (dcs s bl f n).getD 72 undef = .int .i64 f := by
  have hw : (s.l.map uv).length = 8 := rfl
  unfold dcs
  simp only [List.getD]
  rw [List.getElem?_append_right (by omega), hw, List.getElem?_append_right (by simp; omega)]
  simp [h]
theorem dcs_num (s : St) (bl : List Int) (f n : Int) (h : bl.length = 64) : (dcs s bl f n).getD 73 undef = .int .u64 n := by
  have hw : (s.l.map uv).length = 8 := rfl
  unfold dcs
  simp only [List.getD]
  rw [List.getElem?_append_right (by omega), hw, List.getElem?_append_right (by simp; omega)]
  simp [h]
theorem dcs_setf (s : St) (bl : List Int) (f n f' : Int) (h : bl.length = 64) : (dcs s bl f n).set 72 (.int .i64 f') = dcs s bl f' n := by
  have hw : (s.l.map uv).length = 8 := rfl
  unfold dcs
  rw [List.set_append_right _ _ (by omega), hw, List.set_append_right _ _ (by simp; omega)]
  simp [h]
theorem dcs_setn (s : St) (bl : List Int) (f n n' : Int) (h : bl.length = 64) : (dcs s bl f n).set 73 (.int .u64 n') = dcs s bl f n' := by
  have hw : (s.l.map uv).length = 8 := rfl
  unfold dcs
  rw [List.set_append_right _ _ (by omega), hw, List.set_append_right _ _ (by simp; omega)]
  simp [h]
theorem dcs_set8 (s : St) (bl : List Int) (f n : Int) (a b c d e f' g h : Value) :
    ((((((((dcs s bl f n).set 0 a).set 1 b).set 2 c).set 3 d).set 4 e).set 5 f').set 6 g).set 7 h = [a, b, c, d, e, f', g, h] ++ (bl.map (Value.int .u8) ++ [.int .i64 f, .int .u64 n]) := rfl

theorem dcs_cells {w : World} {g : Nat} {s : St} {bl : List Int} {f n : Int} (h : Blk w g 42 (dcs s bl f n)) :
    w.cell? ⟨g, 0, none⟩ = some (.int .u32 (s.a.toNat : Int)) ∧ w.cell? ⟨g, 1, none⟩ = some (.int .u32 (s.b.toNat : Int)) ∧ w.cell? ⟨g, 2, none⟩ = some (.int .u32 (s.c.toNat : Int)) ∧ w.cell? ⟨g, 3, none⟩ = some (.int .u32 (s.d.toNat : Int)) ∧
    w.cell? ⟨g, 4, none⟩ = some (.int .u32 (s.e.toNat : Int)) ∧ w.cell? ⟨g, 5, none⟩ = some (.int .u32 (s.f.toNat : Int)) ∧ w.cell? ⟨g, 6, none⟩ = some (.int .u32 (s.g.toNat : Int)) ∧ w.cell? ⟨g, 7, none⟩ = some (.int .u32 (s.h.toNat : Int)) := by
  have hlen : 8 ≤ (dcs s bl f n).length := by simp [dcs, St.l]
  exact ⟨h.cell (by omega), h.cell (by omega), h.cell (by omega), h.cell (by omega), h.cell (by omega), h.cell (by omega), h.cell (by omega), h.cell (by omega)⟩

theorem below_drewN' (B : Nat) (w : World) : ∀ q, Below B w (w.drewN q)
  | 0 => Below.refl _ _
  | q + 1 => (below_drewN' B w q).drew
theorem idx0 (x0 x1 x2 x3 x4 x5 x6 x7 : Value) (w : World) : (Instr.index 38 (.agg #[x0, x1, x2, x3, x4, x5, x6, x7]) (.int .i64 0)).run Tryd.prog w = .ok x0 w := by kernel_rfl
theorem idx1 (x0 x1 x2 x3 x4 x5 x6 x7 : Value) (w : World) : (Instr.index 38 (.agg #[x0, x1, x2, x3, x4, x5, x6, x7]) (.int .i64 1)).run Tryd.prog w = .ok x1 w := by kernel_rfl
theorem idx2 (x0 x1 x2 x3 x4 x5 x6 x7 : Value) (w : World) : (Instr.index 38 (.agg #[x0, x1, x2, x3, x4, x5, x6, x7]) (.int .i64 2)).run Tryd.prog w = .ok x2 w := by kernel_rfl
theorem idx3 (x0 x1 x2 x3 x4 x5 x6 x7 : Value) (w : World) : (Instr.index 38 (.agg #[x0, x1, x2, x3, x4, x5, x6, x7]) (.int .i64 3)).run Tryd.prog w = .ok x3 w := by kernel_rfl
theorem idx4 (x0 x1 x2 x3 x4 x5 x6 x7 : Value) (w : World) : (Instr.index 38 (.agg #[x0, x1, x2, x3, x4, x5, x6, x7]) (.int .i64 4)).run Tryd.prog w = .ok x4 w := by kernel_rfl
theorem idx5 (x0 x1 x2 x3 x4 x5 x6 x7 : Value) (w : World) : (Instr.index 38 (.agg #[x0, x1, x2, x3, x4, x5, x6, x7]) (.int .i64 5)).run Tryd.prog w = .ok x5 w := by kernel_rfl
theorem idx6 (x0 x1 x2 x3 x4 x5 x6 x7 : Value) (w : World) : (Instr.index 38 (.agg #[x0, x1, x2, x3, x4, x5, x6, x7]) (.int .i64 6)).run Tryd.prog w = .ok x6 w := by kernel_rfl
theorem idx7 (x0 x1 x2 x3 x4 x5 x6 x7 : Value) (w : World) : (Instr.index 38 (.agg #[x0, x1, x2, x3, x4, x5, x6, x7]) (.int .i64 7)).run Tryd.prog w = .ok x7 w := by kernel_rfl
set_option maxRecDepth 100000 in
set_option maxHeartbeats 2000000 in
theorem mix_ok (g : Nat) (s : St) (bl : List Int) (f n : Int) (w : World) (hT : Tab w) (hg2 : 2 ≤ g) (hl : bl.length = 64) (hz : Bts bl) (hg : Blk w g 42 (dcs s bl f n)) :
    Calls Tryd.prog 23 #[.pointer (some ⟨g, 0, none⟩)] w fun e w' => e = .returned (.tuple #[]) ∧ Blk w' g 42 (dcs (mixd s bl) bl 0 n) ∧ Near g w w' := by
  have hS := sched_ok g 8 bl w hl hz (fun j hj => by rw [hg.cell (by rw [dcs_len _ _ _ _ hl]; omega), dcs_byte _ _ _ _ hl _ hj])
  have hsz : ((sch bl 64).map uv).length = 64 := by simp [sch_len]
  obtain ⟨S, hSS⟩ : ∃ S, S = sch bl 64 := ⟨_, rfl⟩
  obtain ⟨SV, hSV⟩ : ∃ SV, SV = S.map uv := ⟨_, rfl⟩
  rw [← hSS, ← hSV] at hS hsz
  have h1 : ∀ v ∈ SV, v.oneCell' = true := by rw [hSV]; exact one_uv
  have HS := Lib.hid hS; have HSS := Lib.hid hSS; have HSV := Lib.hid hSV; have HN := Lib.hid hsz; have H1 := Lib.hid h1; have HG := Lib.hid hg; have HT := Lib.hid hT; have HL := Lib.hid hl
  clear hS hSS hSV hsz h1 hg hT hl hz
  go_enter Tryd.func23, Tryd.ntmps23
  go_wp2_with (go_at_call 24; fail)
  refine HS.out.mono ?_
  rintro e w1 ⟨rfl, hB1⟩
  have HB1 := Lib.hid hB1
  have HG1 : Hid (Blk w1 g 42 (dcs s bl f n)) := HG.out.below hB1
  clear hB1
  have hne : g ≠ w1.heap.size := by have := HG1.out.lt; omega
  have HNE := Lib.hid hne
  clear hne
  go_wp2_with ((with_reducible refine store_blk rfl 45 (.tmp 2) (.tmp 22) rfl w1.heap.size (List.replicate 64 (.int .u32 0)) SV rfl rfl 45 (Blk.new w1 _ 45) (by rw [HN.out]; exact info45) (by rw [List.length_replicate, HN.out]) H1.out ?_); intro w2 HK2 HO2; have HG2 : Hid (Blk w2 g 42 (dcs s bl f n)) := (HG1.out.alloc _).other HO2.out HNE.out; have HB2 : Hid (Below w.heap.size w w2) := (HB1.out.alloc HB1.out.size _).trans (HO2.out.below HB1.out.size); obtain ⟨c0, c1, c2, c3, c4, c5, c6, c7⟩ := dcs_cells HG2.out)

  go_quiet (fail)
  go_wp2
  have hst : ∀ q, Below w.heap.size w (((w2.alloc (.cells #[.int .u32 (s.a.toNat : Int), .int .u32 (s.b.toNat : Int), .int .u32 (s.c.toNat : Int), .int .u32 (s.d.toNat : Int), .int .u32 (s.e.toNat : Int), .int .u32 (s.f.toNat : Int), .int .u32 (s.g.toNat : Int), .int .u32 (s.h.toNat : Int)] 38)).drewN q)) := fun q => (HB2.out.alloc HB2.out.size _).trans (below_drewN' _ _ q)
  have HST := Lib.hid hst
  clear hst
  go_loopw [4, 5, 6, 7, 8, 9, 10, 11, 43] (fun a b c z e f g' h i wr => ∃ t : Nat, t ≤ 64 ∧ i = .int .i64 t ∧ a = .int .u32 ((rnd S s t).a.toNat : Int) ∧ b = .int .u32 ((rnd S s t).b.toNat : Int) ∧ c = .int .u32 ((rnd S s t).c.toNat : Int) ∧ z = .int .u32 ((rnd S s t).d.toNat : Int) ∧
      e = .int .u32 ((rnd S s t).e.toNat : Int) ∧ f = .int .u32 ((rnd S s t).f.toNat : Int) ∧ g' = .int .u32 ((rnd S s t).g.toNat : Int) ∧ h = .int .u32 ((rnd S s t).h.toNat : Int) ∧ Blk wr w1.heap.size 45 SV ∧ Below w.heap.size w wr) (fun _ _ _ _ _ _ _ _ i _ => 64 - (intOf i).toNat)
  case atStart => exact ⟨0, Nat.zero_le _, rfl, rfl, rfl, rfl, rfl, rfl, rfl, rfl, rfl, (HK2.out.alloc _), HST.out _⟩
  case round =>
    obtain ⟨t, ht, rfl, rfl, rfl, rfl, rfl, rfl, rfl, rfl, rfl, hk, hB⟩ := hrel
    have HK := Lib.hid hk; have HB := Lib.hid hB
    clear hk hB
    by_cases hlt : t < 64
    · have hsc : wr.cell? ⟨w1.heap.size, t, none⟩ = some (.int .u32 ((S.getD t 0#32).toNat : Int)) := by
        have hSl : S.length = 64 := by have := HN.out; rw [HSV.out, List.length_map] at this; exact this
        rw [HK.out.cell (by rw [HN.out]; exact hlt), HSV.out]
        simp [List.getD, hSl, hlt, uv]
      have hkc := (HT.out.below HB.out).2 t hlt
      obtain ⟨q, hq⟩ : ∃ q, q = rnd S s t := ⟨_, rfl⟩
      obtain ⟨K, hK⟩ : ∃ K, K = kk t := ⟨_, rfl⟩
      obtain ⟨Wt, hWt⟩ : ∃ Wt, Wt = S.getD t 0#32 := ⟨_, rfl⟩
      have hnx : rnd S s (t + 1) = q.next K Wt := by rw [hq, hK, hWt]; rfl
      rw [← hK] at hkc; rw [← hWt] at hsc; rw [← hq]
      obtain ⟨qa, qb, qc, qd, qe, qf, qg, qh⟩ := q
      simp only
      obtain ⟨E6, e6⟩ : ∃ u, u = rr qe 6 := ⟨_, rfl⟩
      obtain ⟨E11, e11⟩ : ∃ u, u = rr qe 11 := ⟨_, rfl⟩
      obtain ⟨E25, e25⟩ : ∃ u, u = rr qe 25 := ⟨_, rfl⟩
      obtain ⟨A2, a2⟩ : ∃ u, u = rr qa 2 := ⟨_, rfl⟩
      obtain ⟨A13, a13⟩ : ∃ u, u = rr qa 13 := ⟨_, rfl⟩
      obtain ⟨A22, a22⟩ : ∃ u, u = rr qa 22 := ⟨_, rfl⟩
      obtain ⟨S1, s1⟩ : ∃ u, u = big1 qe := ⟨_, rfl⟩
      obtain ⟨S0, s0⟩ : ∃ u, u = big0 qa := ⟨_, rfl⟩
      obtain ⟨NE, ne⟩ : ∃ u, u = ~~~ qe := ⟨_, rfl⟩
      obtain ⟨EF, ef⟩ : ∃ u, u = qe &&& qf := ⟨_, rfl⟩
      obtain ⟨NG, ng⟩ : ∃ u, u = NE &&& qg := ⟨_, rfl⟩
      obtain ⟨CH, ch⟩ : ∃ u, u = cho qe qf qg := ⟨_, rfl⟩
      obtain ⟨AB, ab⟩ : ∃ u, u = qa &&& qb := ⟨_, rfl⟩
      obtain ⟨AC, ac⟩ : ∃ u, u = qa &&& qc := ⟨_, rfl⟩
      obtain ⟨BC, bc⟩ : ∃ u, u = qb &&& qc := ⟨_, rfl⟩
      obtain ⟨MJ, mj⟩ : ∃ u, u = maj qa qb qc := ⟨_, rfl⟩
      obtain ⟨T1, t1⟩ : ∃ u, u = qh + S1 + CH + K + Wt := ⟨_, rfl⟩
      obtain ⟨T2, t2⟩ : ∃ u, u = S0 + MJ := ⟨_, rfl⟩
      obtain ⟨ZT, zt⟩ : ∃ u, u = qd + T1 := ⟨_, rfl⟩
      obtain ⟨TT, tt⟩ : ∃ u, u = T1 + T2 := ⟨_, rfl⟩
      have hnx2 : rnd S s (t + 1) = ⟨TT, qa, qb, qc, ZT, qe, qf, qg⟩ := by rw [hnx, tt, zt, t2, t1, s1, ch, s0, mj]; rfl
      have HNX := Lib.hid hnx2
      have R6 : ∀ V, Calls Tryd.prog 25 #[.int .u32 (qe.toNat : Int), .int .i64 6] V fun e w' => e = .returned (.int .u32 (E6.toNat : Int)) ∧ V = w' := fun V => by rw [e6]; exact rotr_any qe 6 (by omega) (by omega) V
      have R11 : ∀ V, Calls Tryd.prog 25 #[.int .u32 (qe.toNat : Int), .int .i64 11] V fun e w' => e = .returned (.int .u32 (E11.toNat : Int)) ∧ V = w' := fun V => by rw [e11]; exact rotr_any qe 11 (by omega) (by omega) V
      have R25 : ∀ V, Calls Tryd.prog 25 #[.int .u32 (qe.toNat : Int), .int .i64 25] V fun e w' => e = .returned (.int .u32 (E25.toNat : Int)) ∧ V = w' := fun V => by rw [e25]; exact rotr_any qe 25 (by omega) (by omega) V
      have R2 : ∀ V, Calls Tryd.prog 25 #[.int .u32 (qa.toNat : Int), .int .i64 2] V fun e w' => e = .returned (.int .u32 (A2.toNat : Int)) ∧ V = w' := fun V => by rw [a2]; exact rotr_any qa 2 (by omega) (by omega) V
      have R13 : ∀ V, Calls Tryd.prog 25 #[.int .u32 (qa.toNat : Int), .int .i64 13] V fun e w' => e = .returned (.int .u32 (A13.toNat : Int)) ∧ V = w' := fun V => by rw [a13]; exact rotr_any qa 13 (by omega) (by omega) V
      have R22 : ∀ V, Calls Tryd.prog 25 #[.int .u32 (qa.toNat : Int), .int .i64 22] V fun e w' => e = .returned (.int .u32 (A22.toNat : Int)) ∧ V = w' := fun V => by rw [a22]; exact rotr_any qa 22 (by omega) (by omega) V
      have q1 : Go.bits .xor .u32 (Go.bits .xor .u32 (E6.toNat : Int) (E11.toNat : Int)) (E25.toNat : Int) = (S1.toNat : Int) := by rw [xor_u32, xor_u32, e6, e11, e25, s1]; rfl
      have q2 : Go.bits .xor .u32 (Go.bits .xor .u32 (A2.toNat : Int) (A13.toNat : Int)) (A22.toNat : Int) = (S0.toNat : Int) := by rw [xor_u32, xor_u32, a2, a13, a22, s0]; rfl
      have q3 : Go.bits .xor .u32 IntKind.u32.max (qe.toNat : Int) = (NE.toNat : Int) := by rw [not_u32, ne]
      have q3' : Go.bits .xor .u32 (if IntKind.u32.signed = true then -1 else IntKind.u32.max) (qe.toNat : Int) = (NE.toNat : Int) := by rw [if_neg (by decide)]; exact q3
      have q4 : Go.bits .and .u32 (qe.toNat : Int) (qf.toNat : Int) = (EF.toNat : Int) := by rw [and_u32, ef]
      have q5 : Go.bits .and .u32 (NE.toNat : Int) (qg.toNat : Int) = (NG.toNat : Int) := by rw [and_u32, ng]
      have q6 : Go.bits .xor .u32 (EF.toNat : Int) (NG.toNat : Int) = (CH.toNat : Int) := by rw [xor_u32, ef, ng, ne, ch]; rfl
      have q7 : Go.bits .and .u32 (qa.toNat : Int) (qb.toNat : Int) = (AB.toNat : Int) := by rw [and_u32, ab]
      have q8 : Go.bits .and .u32 (qa.toNat : Int) (qc.toNat : Int) = (AC.toNat : Int) := by rw [and_u32, ac]
      have q9 : Go.bits .and .u32 (qb.toNat : Int) (qc.toNat : Int) = (BC.toNat : Int) := by rw [and_u32, bc]
      have q10 : Go.bits .xor .u32 (Go.bits .xor .u32 (AB.toNat : Int) (AC.toNat : Int)) (BC.toNat : Int) = (MJ.toNat : Int) := by rw [xor_u32, xor_u32, ab, ac, bc, mj]; rfl
      have q11 : ((qh.toNat : Int) + S1.toNat + CH.toNat + K.toNat + Wt.toNat) % 4294967296 = (T1.toNat : Int) := by rw [t1]; simp only [BitVec.toNat_add]; omega
      have q12 : ((S0.toNat : Int) + MJ.toNat) % 4294967296 = (T2.toNat : Int) := by rw [t2]; exact add_u32 _ _
      have q13 : ((qd.toNat : Int) + T1.toNat) % 4294967296 = (ZT.toNat : Int) := by rw [zt]; exact add_u32 _ _
      have q14 : ((T1.toNat : Int) + T2.toNat) % 4294967296 = (TT.toNat : Int) := by rw [tt]; exact add_u32 _ _
      have HR6 := Lib.hid R6; have HR11 := Lib.hid R11; have HR25 := Lib.hid R25; have HR2 := Lib.hid R2; have HR13 := Lib.hid R13; have HR22 := Lib.hid R22
      clear hq hK hWt hnx hnx2 e6 e11 e25 a2 a13 a22 s1 s0 ne ef ng ch ab ac bc mj t1 t2 zt tt R6 R11 R25 R2 R13 R22
      go_wp2_with (first | (go_at_call 25; (with_reducible refine (HR6.out _).mono ?_); rintro e w1 ⟨rfl, rfl⟩) | (go_at_call 25; (with_reducible refine (HR11.out _).mono ?_); rintro e w1 ⟨rfl, rfl⟩) | (go_at_call 25; (with_reducible refine (HR25.out _).mono ?_); rintro e w1 ⟨rfl, rfl⟩))
      go_region
      go_wp2_with (first | (go_at_call 25; (with_reducible refine (HR2.out _).mono ?_); rintro e w1 ⟨rfl, rfl⟩) | (go_at_call 25; (with_reducible refine (HR13.out _).mono ?_); rintro e w1 ⟨rfl, rfl⟩) | (go_at_call 25; (with_reducible refine (HR22.out _).mono ?_); rintro e w1 ⟨rfl, rfl⟩))
      go_roundw
      case rel => exact ⟨t + 1, by omega, by go_num, by rw [HNX.out]; exact congrArg (Value.int .u32) q14, by rw [HNX.out], by rw [HNX.out], by rw [HNX.out], by rw [HNX.out]; exact congrArg (Value.int .u32) q13, by rw [HNX.out], by rw [HNX.out], by rw [HNX.out], HK.out.drew, HB.out.drew⟩
      case measure => simp [intOf]; omega
    · obtain rfl : t = 64 := by omega
      have hgr : Blk wr g 42 (dcs s bl f n) := HG.out.below HB.out
      have HGR := Lib.hid hgr
      obtain ⟨c0, c1, c2, c3, c4, c5, c6, c7⟩ := dcs_cells hgr
      have f0 := hgr.free (j := 0)
      have f1 := hgr.free (j := 1)
      have f2 := hgr.free (j := 2)
      have f3 := hgr.free (j := 3)
      have f4 := hgr.free (j := 4)
      have f5 := hgr.free (j := 5)
      have f6 := hgr.free (j := 6)
      have f7 := hgr.free (j := 7)
      have f72 := hgr.free (j := 72)
      have c72 := hgr.cell (j := 72) (by rw [dcs_len _ _ _ _ HL.out]; omega)
      rw [dcs_fill _ _ _ _ HL.out] at c72
      obtain ⟨q, hq⟩ : ∃ q, q = rnd S s 64 := ⟨_, rfl⟩
      have hmx : mixd s bl = s.add q := by rw [hq, HSS.out]; rfl
      have HMX := Lib.hid hmx
      rw [← hq]
      obtain ⟨qa, qb, qc, qd, qe, qf, qg, qh⟩ := q
      obtain ⟨sa, sb, sc, sd, se, sf, sg, sh⟩ := s
      simp only at c0 c1 c2 c3 c4 c5 c6 c7 ⊢
      obtain ⟨U0, u0⟩ : ∃ u, u = sa + qa := ⟨_, rfl⟩
      obtain ⟨U1, u1⟩ : ∃ u, u = sb + qb := ⟨_, rfl⟩
      obtain ⟨U2, u2⟩ : ∃ u, u = sc + qc := ⟨_, rfl⟩
      obtain ⟨U3, u3⟩ : ∃ u, u = sd + qd := ⟨_, rfl⟩
      obtain ⟨U4, u4⟩ : ∃ u, u = se + qe := ⟨_, rfl⟩
      obtain ⟨U5, u5⟩ : ∃ u, u = sf + qf := ⟨_, rfl⟩
      obtain ⟨U6, u6⟩ : ∃ u, u = sg + qg := ⟨_, rfl⟩
      obtain ⟨U7, u7⟩ : ∃ u, u = sh + qh := ⟨_, rfl⟩
      have a0 : ((sa.toNat : Int) + qa.toNat) % 4294967296 = (U0.toNat : Int) := by rw [u0]; exact add_u32 _ _
      have a1 : ((sb.toNat : Int) + qb.toNat) % 4294967296 = (U1.toNat : Int) := by rw [u1]; exact add_u32 _ _
      have a2 : ((sc.toNat : Int) + qc.toNat) % 4294967296 = (U2.toNat : Int) := by rw [u2]; exact add_u32 _ _
      have a3 : ((sd.toNat : Int) + qd.toNat) % 4294967296 = (U3.toNat : Int) := by rw [u3]; exact add_u32 _ _
      have a4 : ((se.toNat : Int) + qe.toNat) % 4294967296 = (U4.toNat : Int) := by rw [u4]; exact add_u32 _ _
      have a5 : ((sf.toNat : Int) + qf.toNat) % 4294967296 = (U5.toNat : Int) := by rw [u5]; exact add_u32 _ _
      have a6 : ((sg.toNat : Int) + qg.toNat) % 4294967296 = (U6.toNat : Int) := by rw [u6]; exact add_u32 _ _
      have a7 : ((sh.toNat : Int) + qh.toNat) % 4294967296 = (U7.toNat : Int) := by rw [u7]; exact add_u32 _ _
      have HU : Hid (mixd ⟨sa, sb, sc, sd, se, sf, sg, sh⟩ bl = ⟨U0, U1, U2, U3, U4, U5, U6, U7⟩) := by
        show _ = _
        rw [hmx, u0, u1, u2, u3, u4, u5, u6, u7]; rfl
      have i0 := fun w => idx0 (.int .u32 (qa.toNat : Int)) (.int .u32 (qb.toNat : Int)) (.int .u32 (qc.toNat : Int)) (.int .u32 (qd.toNat : Int)) (.int .u32 (qe.toNat : Int)) (.int .u32 (qf.toNat : Int)) (.int .u32 (qg.toNat : Int)) (.int .u32 (qh.toNat : Int)) w
      have i1 := fun w => idx1 (.int .u32 (qa.toNat : Int)) (.int .u32 (qb.toNat : Int)) (.int .u32 (qc.toNat : Int)) (.int .u32 (qd.toNat : Int)) (.int .u32 (qe.toNat : Int)) (.int .u32 (qf.toNat : Int)) (.int .u32 (qg.toNat : Int)) (.int .u32 (qh.toNat : Int)) w
      have i2 := fun w => idx2 (.int .u32 (qa.toNat : Int)) (.int .u32 (qb.toNat : Int)) (.int .u32 (qc.toNat : Int)) (.int .u32 (qd.toNat : Int)) (.int .u32 (qe.toNat : Int)) (.int .u32 (qf.toNat : Int)) (.int .u32 (qg.toNat : Int)) (.int .u32 (qh.toNat : Int)) w
      have i3 := fun w => idx3 (.int .u32 (qa.toNat : Int)) (.int .u32 (qb.toNat : Int)) (.int .u32 (qc.toNat : Int)) (.int .u32 (qd.toNat : Int)) (.int .u32 (qe.toNat : Int)) (.int .u32 (qf.toNat : Int)) (.int .u32 (qg.toNat : Int)) (.int .u32 (qh.toNat : Int)) w
      have i4 := fun w => idx4 (.int .u32 (qa.toNat : Int)) (.int .u32 (qb.toNat : Int)) (.int .u32 (qc.toNat : Int)) (.int .u32 (qd.toNat : Int)) (.int .u32 (qe.toNat : Int)) (.int .u32 (qf.toNat : Int)) (.int .u32 (qg.toNat : Int)) (.int .u32 (qh.toNat : Int)) w
      have i5 := fun w => idx5 (.int .u32 (qa.toNat : Int)) (.int .u32 (qb.toNat : Int)) (.int .u32 (qc.toNat : Int)) (.int .u32 (qd.toNat : Int)) (.int .u32 (qe.toNat : Int)) (.int .u32 (qf.toNat : Int)) (.int .u32 (qg.toNat : Int)) (.int .u32 (qh.toNat : Int)) w
      have i6 := fun w => idx6 (.int .u32 (qa.toNat : Int)) (.int .u32 (qb.toNat : Int)) (.int .u32 (qc.toNat : Int)) (.int .u32 (qd.toNat : Int)) (.int .u32 (qe.toNat : Int)) (.int .u32 (qf.toNat : Int)) (.int .u32 (qg.toNat : Int)) (.int .u32 (qh.toNat : Int)) w
      have i7 := fun w => idx7 (.int .u32 (qa.toNat : Int)) (.int .u32 (qb.toNat : Int)) (.int .u32 (qc.toNat : Int)) (.int .u32 (qd.toNat : Int)) (.int .u32 (qe.toNat : Int)) (.int .u32 (qf.toNat : Int)) (.int .u32 (qg.toNat : Int)) (.int .u32 (qh.toNat : Int)) w
      clear hgr hq hmx u0 u1 u2 u3 u4 u5 u6 u7
      go_wp2
      refine wp_loop_rounds 9 ?_
      iterate 8 (rw [rounds_succ]; go_wp2; go_region; go_wp2)
      rw [rounds_succ]
      go_wp2
      go_end0
      refine ⟨rfl, ?_, (Near.of_below HB.out).trans (Near.of_only (((((((((((((((((Only.refl g wr).set 0 _).set 1 _).set 2 _).set 3 _).set 4 _).set 5 _).set 6 _).set 7 _).set 72 _).drew).drew).drew).drew).drew).drew).drew).drew)⟩
      rw [HU.out]
      have hb := ((((((((HGR.out.set (j := 0) (uv U0)).set (j := 1) (uv U1)).set (j := 2) (uv U2)).set (j := 3) (uv U3)).set (j := 4) (uv U4)).set (j := 5) (uv U5)).set (j := 6) (uv U6)).set (j := 7) (uv U7)).set (j := 72) (.int .i64 0)
      have e : ((((((((dcs ⟨sa, sb, sc, sd, se, sf, sg, sh⟩ bl f n).set 0 (uv U0)).set 1 (uv U1)).set 2 (uv U2)).set 3 (uv U3)).set 4 (uv U4)).set 5 (uv U5)).set 6 (uv U6)).set 7 (uv U7) = dcs ⟨U0, U1, U2, U3, U4, U5, U6, U7⟩ bl f n := rfl
      rw [e, dcs_setf _ _ _ _ _ HL.out] at hb
      exact hb.drew.drew.drew.drew.drew.drew.drew.drew
end Go.Proofs.YtdpnkdliibccjaaDoor
