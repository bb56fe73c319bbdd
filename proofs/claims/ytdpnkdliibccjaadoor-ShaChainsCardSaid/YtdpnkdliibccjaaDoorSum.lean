/-
  The contract of Sum.
-/
import Derived.Test.YtdpnkdliibccjaaDoorFin
import Derived.Deep.WholeRow
namespace Go.Proofs.YtdpnkdliibccjaaDoor
open Go.RowKit
set_option linter.unusedVariables false

def shaV (m : List Int) : List Value := (shaOf m).map (Value.int .u8)
/-- The sum's bytes so far, and noughts. -/
def bcs (ws : List (BitVec 32)) : List Value := (ws.flatMap wb).map (Value.int .u8) ++ zeros (32 - 4 * ws.length)
theorem flat_wb_len (ws : List (BitVec 32)) : (ws.flatMap wb).length = 4 * ws.length := by
  induction ws with
  | nil => rfl
  | cons x ws ih => rw [List.flatMap_cons, List.length_append, ih, List.length_cons]; simp [wb]; omega
theorem bcs_len (ws : List (BitVec 32)) (h : ws.length ≤ 8) : (bcs ws).length = 32 := by
  unfold bcs zeros
  rw [List.length_append, List.length_map, flat_wb_len, List.length_replicate]; omega
theorem bcs_put (ws : List (BitVec 32)) (x : BitVec 32) (k : Nat) (hk : k = 4 * ws.length) (h : ws.length < 8) : splice (bcs ws) k ((wb x).map (Value.int .u8)) = bcs (ws ++ [x]) := by
  subst hk
  have hl : ((ws.flatMap wb).map (Value.int .u8)).length = 4 * ws.length := by rw [List.length_map, flat_wb_len]
  have h4 : ((wb x).map (Value.int .u8)).length = 4 := rfl
  obtain ⟨A, hA⟩ : ∃ A, A = (ws.flatMap wb).map (Value.int .u8) := ⟨_, rfl⟩
  unfold splice bcs
  rw [← hA] at hl ⊢
  rw [h4, List.take_append, hl, Nat.sub_self, List.take_zero, List.append_nil, List.take_of_length_le (by omega), List.drop_append, List.drop_eq_nil_of_le (by omega), List.nil_append, hl, Nat.add_sub_cancel_left,
    List.flatMap_append, List.map_append, ← hA, List.flatMap_cons, List.flatMap_nil, List.append_nil, List.append_assoc]
  congr 2
  unfold zeros
  rw [List.drop_replicate, List.length_append]
  congr 1
theorem put_at (H k r : Nat) (ws : List (BitVec 32)) (x : BitVec 32) (w : World) (hk : k = 4 * ws.length) (hr : r = 32 - k) (h : ws.length < 8) (hb : Blk w H 25 (bcs ws)) :
    Calls Tryd.prog 19 #[.slice (some ⟨H, k, none⟩) r r, .int .u32 (x.toNat : Int)] w fun e w' => e = .returned (.tuple #[]) ∧ Blk w' H 25 (bcs (ws ++ [x])) ∧ Only H w w' := by
  rw [← bcs_put ws x k hk h]
  exact put_ok H k r r 25 (bcs ws) x w hb (by omega) (by omega) (by rw [bcs_len _ (by omega)]; omega)
theorem bcs_sha (m : List Int) : bcs (hs (padd m) ((padd m).length / 64)).l = shaV m := by
  unfold bcs shaV shaOf St.bytes zeros
  simp [St.l]
theorem sha_len (m : List Int) : (shaV m).length = 32 := by
  rw [← bcs_sha]; exact bcs_len _ (by simp [St.l])
theorem sha_one (m : List Int) : ∀ v ∈ shaV m, v.oneCell' = true := fun v hv => by
  obtain ⟨y, _, rfl⟩ := List.mem_map.1 hv; rfl
theorem dgd0 : Dgd [] st0 (List.replicate 64 0) := ⟨by simp, bts_zeros 64, rfl, rfl⟩
theorem zero42 (w : World) : (zeroValue 42).run Tryd.prog w = .ok (.agg #[.int .u32 0, .int .u32 0, .int .u32 0, .int .u32 0, .int .u32 0, .int .u32 0, .int .u32 0, .int .u32 0, .int .u8 0, .int .u8 0, .int .u8 0, .int .u8 0, .int .u8 0, .int .u8 0, .int .u8 0, .int .u8 0, .int .u8 0, .int .u8 0, .int .u8 0, .int .u8 0, .int .u8 0, .int .u8 0, .int .u8 0, .int .u8 0, .int .u8 0, .int .u8 0, .int .u8 0, .int .u8 0, .int .u8 0, .int .u8 0, .int .u8 0, .int .u8 0, .int .u8 0, .int .u8 0, .int .u8 0, .int .u8 0, .int .u8 0, .int .u8 0, .int .u8 0, .int .u8 0, .int .u8 0, .int .u8 0, .int .u8 0, .int .u8 0, .int .u8 0, .int .u8 0, .int .u8 0, .int .u8 0, .int .u8 0, .int .u8 0, .int .u8 0, .int .u8 0, .int .u8 0, .int .u8 0, .int .u8 0, .int .u8 0, .int .u8 0, .int .u8 0, .int .u8 0, .int .u8 0, .int .u8 0, .int .u8 0, .int .u8 0, .int .u8 0, .int .u8 0, .int .u8 0, .int .u8 0, .int .u8 0, .int .u8 0, .int .u8 0, .int .u8 0, .int .u8 0, .int .i64 0, .int .u64 0]) w :=
  (zero_of_info (P := Tryd.prog) (t := 42) (v := .agg #[.int .u32 0, .int .u32 0, .int .u32 0, .int .u32 0, .int .u32 0, .int .u32 0, .int .u32 0, .int .u32 0, .int .u8 0, .int .u8 0, .int .u8 0, .int .u8 0, .int .u8 0, .int .u8 0, .int .u8 0, .int .u8 0, .int .u8 0, .int .u8 0, .int .u8 0, .int .u8 0, .int .u8 0, .int .u8 0, .int .u8 0, .int .u8 0, .int .u8 0, .int .u8 0, .int .u8 0, .int .u8 0, .int .u8 0, .int .u8 0, .int .u8 0, .int .u8 0, .int .u8 0, .int .u8 0, .int .u8 0, .int .u8 0, .int .u8 0, .int .u8 0, .int .u8 0, .int .u8 0, .int .u8 0, .int .u8 0, .int .u8 0, .int .u8 0, .int .u8 0, .int .u8 0, .int .u8 0, .int .u8 0, .int .u8 0, .int .u8 0, .int .u8 0, .int .u8 0, .int .u8 0, .int .u8 0, .int .u8 0, .int .u8 0, .int .u8 0, .int .u8 0, .int .u8 0, .int .u8 0, .int .u8 0, .int .u8 0, .int .u8 0, .int .u8 0, .int .u8 0, .int .u8 0, .int .u8 0, .int .u8 0, .int .u8 0, .int .u8 0, .int .u8 0, .int .u8 0, .int .i64 0, .int .u64 0]) (n := 74) (by kernel_rfl)).1 w
theorem info42 : (Tryd.prog.info? 42).map (·.size) = some 74 := by kernel_rfl
def st00 : St := ⟨0#32, 0#32, 0#32, 0#32, 0#32, 0#32, 0#32, 0#32⟩
theorem built42 : Tryd.prog.built 42 [(0, .agg (st0.l.map uv).toArray)] = some (dcs st0 (List.replicate 64 0) 0 0).toArray := by kernel_rfl
theorem build_dig {ops : Array Oper} {rest : List Oper} {o : Oper} {a : Act} {w : World} {Q : Exit → Act → World → Prop} (hg : o.guard = none) (x : Operand) (ho : o.op = .build 42 #[(0, x)]) (hx : a.eval x = .agg (st0.l.map uv).toArray)
    (DC : List Value) (hD : DC = dcs st0 (List.replicate 64 0) 0 0) (h : wpList Tryd.prog ops Q rest (a.put o.dst (.agg DC.toArray)) w) : wpList Tryd.prog ops Q (o :: rest) a w := by
  have e : (#[(0, x)].map fun (i, x) => (i, a.eval x)).toList = [(0, Value.agg (st0.l.map uv).toArray)] := by simp [hx]
  refine wpList_build hg 42 _ ho (by rw [e, built42]; rfl) ?_
  rw [e, built42]
  rw [hD] at h
  exact h
theorem Blk.at {w : World} {g t : Nat} (L : List Value) (hg : g = w.heap.size) : Blk (w.alloc (.cells L.toArray t)) g t L := by
  subst hg; exact Blk.new w L t
set_option maxRecDepth 100000 in
set_option maxHeartbeats 2000000 in
/-- THE SUM OF ANY PARTS. -/
theorem sum_any (ao : Option Addr) (n cap : Nat) (ps : List Part) (w : World) (hl : ps.length = n) (hm : n ≤ 1000000) (hT : Tab w) (hc : Ps w ao ps) (hN : (flat ps).length ≤ 100000000) :
    Calls Tryd.prog 10 #[.slice ao n cap] w fun e w' => e = .returned (.agg (shaV (flat ps)).toArray) ∧ Below w.heap.size w w' := by
  have hB0 : Below w.heap.size w (w.alloc (.cells #[.int .u8 0, .int .u8 0, .int .u8 0, .int .u8 0, .int .u8 0, .int .u8 0, .int .u8 0, .int .u8 0, .int .u8 0, .int .u8 0, .int .u8 0, .int .u8 0, .int .u8 0, .int .u8 0, .int .u8 0, .int .u8 0, .int .u8 0, .int .u8 0, .int .u8 0, .int .u8 0, .int .u8 0, .int .u8 0, .int .u8 0, .int .u8 0, .int .u8 0, .int .u8 0, .int .u8 0, .int .u8 0, .int .u8 0, .int .u8 0, .int .u8 0, .int .u8 0] 25)) := (Below.refl _ _).alloc (Nat.le_refl _) _
  have hT0 := hT.below hB0
  have t0 : (w.alloc (.cells #[.int .u8 0, .int .u8 0, .int .u8 0, .int .u8 0, .int .u8 0, .int .u8 0, .int .u8 0, .int .u8 0, .int .u8 0, .int .u8 0, .int .u8 0, .int .u8 0, .int .u8 0, .int .u8 0, .int .u8 0, .int .u8 0, .int .u8 0, .int .u8 0, .int .u8 0, .int .u8 0, .int .u8 0, .int .u8 0, .int .u8 0, .int .u8 0, .int .u8 0, .int .u8 0, .int .u8 0, .int .u8 0, .int .u8 0, .int .u8 0, .int .u8 0, .int .u8 0] 25)).cell? ⟨0, 0, none⟩ = some (.int .u32 1779033703) := hT0.1 0 (by omega)
  have t1 : (w.alloc (.cells #[.int .u8 0, .int .u8 0, .int .u8 0, .int .u8 0, .int .u8 0, .int .u8 0, .int .u8 0, .int .u8 0, .int .u8 0, .int .u8 0, .int .u8 0, .int .u8 0, .int .u8 0, .int .u8 0, .int .u8 0, .int .u8 0, .int .u8 0, .int .u8 0, .int .u8 0, .int .u8 0, .int .u8 0, .int .u8 0, .int .u8 0, .int .u8 0, .int .u8 0, .int .u8 0, .int .u8 0, .int .u8 0, .int .u8 0, .int .u8 0, .int .u8 0, .int .u8 0] 25)).cell? ⟨0, 1, none⟩ = some (.int .u32 3144134277) := hT0.1 1 (by omega)
  have t2 : (w.alloc (.cells #[.int .u8 0, .int .u8 0, .int .u8 0, .int .u8 0, .int .u8 0, .int .u8 0, .int .u8 0, .int .u8 0, .int .u8 0, .int .u8 0, .int .u8 0, .int .u8 0, .int .u8 0, .int .u8 0, .int .u8 0, .int .u8 0, .int .u8 0, .int .u8 0, .int .u8 0, .int .u8 0, .int .u8 0, .int .u8 0, .int .u8 0, .int .u8 0, .int .u8 0, .int .u8 0, .int .u8 0, .int .u8 0, .int .u8 0, .int .u8 0, .int .u8 0, .int .u8 0] 25)).cell? ⟨0, 2, none⟩ = some (.int .u32 1013904242) := hT0.1 2 (by omega)
  have t3 : (w.alloc (.cells #[.int .u8 0, .int .u8 0, .int .u8 0, .int .u8 0, .int .u8 0, .int .u8 0, .int .u8 0, .int .u8 0, .int .u8 0, .int .u8 0, .int .u8 0, .int .u8 0, .int .u8 0, .int .u8 0, .int .u8 0, .int .u8 0, .int .u8 0, .int .u8 0, .int .u8 0, .int .u8 0, .int .u8 0, .int .u8 0, .int .u8 0, .int .u8 0, .int .u8 0, .int .u8 0, .int .u8 0, .int .u8 0, .int .u8 0, .int .u8 0, .int .u8 0, .int .u8 0] 25)).cell? ⟨0, 3, none⟩ = some (.int .u32 2773480762) := hT0.1 3 (by omega)
  have t4 : (w.alloc (.cells #[.int .u8 0, .int .u8 0, .int .u8 0, .int .u8 0, .int .u8 0, .int .u8 0, .int .u8 0, .int .u8 0, .int .u8 0, .int .u8 0, .int .u8 0, .int .u8 0, .int .u8 0, .int .u8 0, .int .u8 0, .int .u8 0, .int .u8 0, .int .u8 0, .int .u8 0, .int .u8 0, .int .u8 0, .int .u8 0, .int .u8 0, .int .u8 0, .int .u8 0, .int .u8 0, .int .u8 0, .int .u8 0, .int .u8 0, .int .u8 0, .int .u8 0, .int .u8 0] 25)).cell? ⟨0, 4, none⟩ = some (.int .u32 1359893119) := hT0.1 4 (by omega)
  have t5 : (w.alloc (.cells #[.int .u8 0, .int .u8 0, .int .u8 0, .int .u8 0, .int .u8 0, .int .u8 0, .int .u8 0, .int .u8 0, .int .u8 0, .int .u8 0, .int .u8 0, .int .u8 0, .int .u8 0, .int .u8 0, .int .u8 0, .int .u8 0, .int .u8 0, .int .u8 0, .int .u8 0, .int .u8 0, .int .u8 0, .int .u8 0, .int .u8 0, .int .u8 0, .int .u8 0, .int .u8 0, .int .u8 0, .int .u8 0, .int .u8 0, .int .u8 0, .int .u8 0, .int .u8 0] 25)).cell? ⟨0, 5, none⟩ = some (.int .u32 2600822924) := hT0.1 5 (by omega)
  have t6 : (w.alloc (.cells #[.int .u8 0, .int .u8 0, .int .u8 0, .int .u8 0, .int .u8 0, .int .u8 0, .int .u8 0, .int .u8 0, .int .u8 0, .int .u8 0, .int .u8 0, .int .u8 0, .int .u8 0, .int .u8 0, .int .u8 0, .int .u8 0, .int .u8 0, .int .u8 0, .int .u8 0, .int .u8 0, .int .u8 0, .int .u8 0, .int .u8 0, .int .u8 0, .int .u8 0, .int .u8 0, .int .u8 0, .int .u8 0, .int .u8 0, .int .u8 0, .int .u8 0, .int .u8 0] 25)).cell? ⟨0, 6, none⟩ = some (.int .u32 528734635) := hT0.1 6 (by omega)
  have t7 : (w.alloc (.cells #[.int .u8 0, .int .u8 0, .int .u8 0, .int .u8 0, .int .u8 0, .int .u8 0, .int .u8 0, .int .u8 0, .int .u8 0, .int .u8 0, .int .u8 0, .int .u8 0, .int .u8 0, .int .u8 0, .int .u8 0, .int .u8 0, .int .u8 0, .int .u8 0, .int .u8 0, .int .u8 0, .int .u8 0, .int .u8 0, .int .u8 0, .int .u8 0, .int .u8 0, .int .u8 0, .int .u8 0, .int .u8 0, .int .u8 0, .int .u8 0, .int .u8 0, .int .u8 0] 25)).cell? ⟨0, 7, none⟩ = some (.int .u32 1541459225) := hT0.1 7 (by omega)
  have HB0 := Lib.hid hB0; have HT0 := Lib.hid hT0
  clear hB0 hT0
  have HL := Lib.hid hl; have HT := Lib.hid hT; have HC := Lib.hid hc
  have hw2 : 2 ≤ w.heap.size := by have := cell_lt (hT.2 0 (by omega)); exact this
  clear hl hT hc
  go_enter Tryd.func10, Tryd.ntmps10
  obtain ⟨DC, hDC⟩ : ∃ DC, DC = dcs st0 (List.replicate 64 0) 0 0 := ⟨_, rfl⟩
  have hDl : DC.length = 74 := by rw [hDC]; exact dcs_len _ _ _ _ (by simp)
  have hD1 : ∀ v ∈ DC, v.oneCell' = true := by rw [hDC]; exact List.all_eq_true.1 (by decide +kernel)
  have HDC := Lib.hid hDC; have HDL := Lib.hid hDl; have HD1 := Lib.hid hD1
  clear hDC hDl hD1
  have hz := zero42
  go_wp2_with (first
    | (with_reducible refine build_dig rfl (.tmp 9) rfl rfl DC HDC.out ?_)
    | (refine store_blk rfl 42 (.tmp 3) (.tmp 10) rfl (w.heap.size + 1) (dcs st00 (List.replicate 64 0) 0 0) DC rfl rfl 42 (Blk.at (dcs st00 (List.replicate 64 0) 0 0) (World.size_alloc ..).symm) (by rw [HDL.out]; exact info42) (by rw [HDL.out]; rfl) HD1.out ?_; intro w2 HB2 HO2))
  have hz2 : Blk w2 w.heap.size 25 (zeros 32) := ((Blk.at (w := w) (zeros 32) rfl).alloc _).other HO2.out (by omega)
  have hB2 : Below w.heap.size w w2 := ((HB0.out.alloc HB0.out.size _)).trans (HO2.out.below (by omega))
  have hs2 : w.heap.size + 1 < w2.heap.size := HB2.out.lt
  have hd2 : Dg w2 (w.heap.size + 1) [] 0 := ⟨st0, List.replicate 64 0, dgd0, by have := HB2.out; rw [HDC.out] at this; exact this⟩
  obtain ⟨G, hG⟩ : ∃ G, G = w.heap.size + 1 := ⟨_, rfl⟩
  rw [← hG] at hs2 hd2 ⊢
  have hGR : w.heap.size ≠ G := by omega
  have hG2 : 2 ≤ G := by omega
  have hGw : w.heap.size ≤ G := by omega
  have HZ2 := Lib.hid hz2; have HBW := Lib.hid hB2; have HD2 := Lib.hid hd2; have HGG := Lib.hid hG; have HGR := Lib.hid hGR
  clear hz2 hB2 hd2 t0 t1 t2 t3 t4 t5 t6 t7 HB2 HO2 HB0 HT0 HD1 HDL HDC hG hGR hz
  go_loopw [13] (fun i wr => ∃ k : Nat, k ≤ n ∧ i = .int .i64 k ∧ Dg wr G (flat (ps.take k)) (flat (ps.take k)).length ∧ Near G w2 wr) (fun i _ => n - (intOf i).toNat)
  case atStart => exact ⟨0, Nat.zero_le _, rfl, by simpa [flat] using HD2.out, Near.refl _ _⟩
  case round =>
    obtain ⟨k, hk, rfl, hd, hn⟩ := hrel
    have HD := Lib.hid hd; have HN := Lib.hid hn
    have hBr : Below w.heap.size w wr := hn.below HBW.out hGw (Nat.le_of_lt (Nat.lt_of_le_of_lt hGw hs2))
    have HBR := Lib.hid hBr
    clear hd hn
    by_cases hlt : k < n
    · have hlt' : k < ps.length := by rw [HL.out]; exact hlt
      obtain ⟨b, o, rfl, hcc⟩ : ∃ b o, ao = some ⟨b, o, none⟩ ∧ _ := by
        rcases HC.out with h | h
        · rw [h] at hlt'; exact absurd hlt' (Nat.not_lt_zero _)
        · exact h
      obtain ⟨hcell, hok⟩ := hcc k hlt'
      clear hcc
      have hft := flat_take ps k hlt'
      have hlen := flat_len ps
      have htot : (flat (ps.take (k + 1))).length ≤ (flat ps).length := by
        have : flat ps = flat (ps.take (k + 1)) ++ flat (ps.drop (k + 1)) := by
          conv => lhs; rw [← List.take_append_drop (k + 1) ps]
          unfold flat; rw [List.flatMap_append]
        rw [this, List.length_append]; omega
      obtain ⟨p, hp⟩ : ∃ p, p = ps[k] := ⟨_, rfl⟩
      rw [← hp] at hcell hok hft
      obtain ⟨pa, pl, pc, pz⟩ := p
      simp only at hcell hft
      have hc' : wr.cell? ⟨b, o + k, none⟩ = some (.slice pa pl pc) := by rw [hBr.cell (cell_lt hcell)]; exact hcell
      have hpl : pz.length = pl := hok.len
      have hrd : Rd wr pa pz := (hok.below hBr).rd
      have hroom := hok.room
      have hbts := hok.bts
      have hne : pz ≠ [] → ∀ ad, pa = some ad → ad.block ≠ G := fun hz ad had => by
        obtain ⟨b', o', e, hcc⟩ := hok.rd.at (by cases pz with | nil => exact absurd rfl hz | cons _ _ => simp)
        simp only at e hcc
        rw [had] at e
        cases e
        have : b' < w.heap.size := cell_lt (hcc 0 (by cases pz with | nil => exact absurd rfl hz | cons _ _ => simp))
        show b' ≠ G
        have hg := HGG.out
        omega
      have hle : (flat (ps.take k)).length + pl ≤ 1000000000 := by
        rw [hft, List.length_append, hpl] at htot; omega
      have HA := Lib.hid (add_ok G (flat (ps.take k)) (flat (ps.take k)).length pa pl pc pz wr (HT.out.below hBr) hG2 HD.out hpl hroom.1 hroom.2 hrd hbts hne hle)
      have HFT := Lib.hid hft; have HPL := Lib.hid hpl
      clear hcell hok hft hlen htot hp hpl hrd hroom hbts hne hle hBr
      go_wp2_with (go_at_call 17; refine HA.out.mono ?_; rintro e w3 ⟨rfl, hd3, hn3⟩; have HD3 := Lib.hid hd3; have HN3 := Lib.hid hn3; clear hd3 hn3)
      go_roundw
      case rel => exact ⟨k + 1, by omega, by go_num, by rw [HFT.out, List.length_append, HPL.out]; exact HD3.out, HN.out.trans HN3.out⟩
      case measure => simp [intOf]; omega
    · obtain rfl : k = n := by omega
      obtain ⟨wo, rfl⟩ : ∃ wo : World, wo = wr := ⟨_, rfl⟩
      have hd := HD.out
      rw [List.take_of_length_le (by rw [HL.out]; exact Nat.le_refl _)] at hd
      have HF := Lib.hid (fin_ok G (flat ps) wo (HT.out.below hBr) hG2 hd hN)
      have hRo : Blk wo w.heap.size 25 (zeros 32) := HN.out.blk HZ2.out HGR.out
      have HRO := Lib.hid hRo
      clear hd hRo hBr
      go_wp2_with (go_at_call 18; fail)
      refine HF.out.mono ?_
      rintro e w4 ⟨rfl, ⟨bl, ff, nn, hb4⟩, hn4⟩
      have HB4 := Lib.hid hb4; have HN4 := Lib.hid hn4
      obtain ⟨m, hm'⟩ : ∃ m, m = flat ps := ⟨_, rfl⟩
      rw [← hm'] at HB4
      obtain ⟨S, hS⟩ : ∃ S, S = hs (padd m) ((padd m).length / 64) := ⟨_, rfl⟩
      rw [← hS] at HB4
      have hB4 : Below w.heap.size w w4 := hn4.below HBR.out hGw (Nat.le_of_lt (Nat.lt_of_le_of_lt hGw (Nat.lt_of_lt_of_le hs2 HN.out.size)))
      have hR4 : Blk w4 w.heap.size 25 (zeros 32) := hn4.blk HRO.out HGR.out
      have hG4 : G < w4.heap.size := HB4.out.lt
      have HBW4 := Lib.hid hB4; have HR4 := Lib.hid hR4; have HS := Lib.hid hS; have HM := Lib.hid hm'
      obtain ⟨c0, c1, c2, c3, c4, c5, c6, c7⟩ := dcs_cells (HB4.out.alloc (.cells #[.int .u8 0, .int .u8 0, .int .u8 0, .int .u8 0, .int .u8 0, .int .u8 0, .int .u8 0, .int .u8 0, .int .u8 0, .int .u8 0, .int .u8 0, .int .u8 0, .int .u8 0, .int .u8 0, .int .u8 0, .int .u8 0, .int .u8 0, .int .u8 0, .int .u8 0, .int .u8 0, .int .u8 0, .int .u8 0, .int .u8 0, .int .u8 0, .int .u8 0, .int .u8 0, .int .u8 0, .int .u8 0, .int .u8 0, .int .u8 0, .int .u8 0, .int .u8 0] 25))
      obtain ⟨x0, x1, x2, x3, x4, x5, x6, x7⟩ := S
      simp only at c0 c1 c2 c3 c4 c5 c6 c7
      clear hb4 hn4 hm' hS hB4 hR4
      have i0 := fun w => idx0 (.int .u32 (x0.toNat : Int)) (.int .u32 (x1.toNat : Int)) (.int .u32 (x2.toNat : Int)) (.int .u32 (x3.toNat : Int)) (.int .u32 (x4.toNat : Int)) (.int .u32 (x5.toNat : Int)) (.int .u32 (x6.toNat : Int)) (.int .u32 (x7.toNat : Int)) w
      have i1 := fun w => idx1 (.int .u32 (x0.toNat : Int)) (.int .u32 (x1.toNat : Int)) (.int .u32 (x2.toNat : Int)) (.int .u32 (x3.toNat : Int)) (.int .u32 (x4.toNat : Int)) (.int .u32 (x5.toNat : Int)) (.int .u32 (x6.toNat : Int)) (.int .u32 (x7.toNat : Int)) w
      have i2 := fun w => idx2 (.int .u32 (x0.toNat : Int)) (.int .u32 (x1.toNat : Int)) (.int .u32 (x2.toNat : Int)) (.int .u32 (x3.toNat : Int)) (.int .u32 (x4.toNat : Int)) (.int .u32 (x5.toNat : Int)) (.int .u32 (x6.toNat : Int)) (.int .u32 (x7.toNat : Int)) w
      have i3 := fun w => idx3 (.int .u32 (x0.toNat : Int)) (.int .u32 (x1.toNat : Int)) (.int .u32 (x2.toNat : Int)) (.int .u32 (x3.toNat : Int)) (.int .u32 (x4.toNat : Int)) (.int .u32 (x5.toNat : Int)) (.int .u32 (x6.toNat : Int)) (.int .u32 (x7.toNat : Int)) w
      have i4 := fun w => idx4 (.int .u32 (x0.toNat : Int)) (.int .u32 (x1.toNat : Int)) (.int .u32 (x2.toNat : Int)) (.int .u32 (x3.toNat : Int)) (.int .u32 (x4.toNat : Int)) (.int .u32 (x5.toNat : Int)) (.int .u32 (x6.toNat : Int)) (.int .u32 (x7.toNat : Int)) w
      have i5 := fun w => idx5 (.int .u32 (x0.toNat : Int)) (.int .u32 (x1.toNat : Int)) (.int .u32 (x2.toNat : Int)) (.int .u32 (x3.toNat : Int)) (.int .u32 (x4.toNat : Int)) (.int .u32 (x5.toNat : Int)) (.int .u32 (x6.toNat : Int)) (.int .u32 (x7.toNat : Int)) w
      have i6 := fun w => idx6 (.int .u32 (x0.toNat : Int)) (.int .u32 (x1.toNat : Int)) (.int .u32 (x2.toNat : Int)) (.int .u32 (x3.toNat : Int)) (.int .u32 (x4.toNat : Int)) (.int .u32 (x5.toNat : Int)) (.int .u32 (x6.toNat : Int)) (.int .u32 (x7.toNat : Int)) w
      have i7 := fun w => idx7 (.int .u32 (x0.toNat : Int)) (.int .u32 (x1.toNat : Int)) (.int .u32 (x2.toNat : Int)) (.int .u32 (x3.toNat : Int)) (.int .u32 (x4.toNat : Int)) (.int .u32 (x5.toNat : Int)) (.int .u32 (x6.toNat : Int)) (.int .u32 (x7.toNat : Int)) w
      have k0 : ∀ V, Sem.run Tryd.prog (Instr.sliceAt 25 (.pointer (some ⟨w4.heap.size, 0, none⟩)) (some (.int .i64 0)) none none) V = .ok (.slice (some ⟨w4.heap.size, 0, none⟩) 32 32) V := fun V => cut_arr arr25 V w4.heap.size 0 0 0 rfl (by omega)
      have k1 : ∀ V, Sem.run Tryd.prog (Instr.sliceAt 25 (.pointer (some ⟨w4.heap.size, 0, none⟩)) (some (.int .i64 4)) none none) V = .ok (.slice (some ⟨w4.heap.size, 4, none⟩) 28 28) V := fun V => cut_arr arr25 V w4.heap.size 0 4 4 rfl (by omega)
      have k2 : ∀ V, Sem.run Tryd.prog (Instr.sliceAt 25 (.pointer (some ⟨w4.heap.size, 0, none⟩)) (some (.int .i64 8)) none none) V = .ok (.slice (some ⟨w4.heap.size, 8, none⟩) 24 24) V := fun V => cut_arr arr25 V w4.heap.size 0 8 8 rfl (by omega)
      have k3 : ∀ V, Sem.run Tryd.prog (Instr.sliceAt 25 (.pointer (some ⟨w4.heap.size, 0, none⟩)) (some (.int .i64 12)) none none) V = .ok (.slice (some ⟨w4.heap.size, 12, none⟩) 20 20) V := fun V => cut_arr arr25 V w4.heap.size 0 12 12 rfl (by omega)
      have k4 : ∀ V, Sem.run Tryd.prog (Instr.sliceAt 25 (.pointer (some ⟨w4.heap.size, 0, none⟩)) (some (.int .i64 16)) none none) V = .ok (.slice (some ⟨w4.heap.size, 16, none⟩) 16 16) V := fun V => cut_arr arr25 V w4.heap.size 0 16 16 rfl (by omega)
      have k5 : ∀ V, Sem.run Tryd.prog (Instr.sliceAt 25 (.pointer (some ⟨w4.heap.size, 0, none⟩)) (some (.int .i64 20)) none none) V = .ok (.slice (some ⟨w4.heap.size, 20, none⟩) 12 12) V := fun V => cut_arr arr25 V w4.heap.size 0 20 20 rfl (by omega)
      have k6 : ∀ V, Sem.run Tryd.prog (Instr.sliceAt 25 (.pointer (some ⟨w4.heap.size, 0, none⟩)) (some (.int .i64 24)) none none) V = .ok (.slice (some ⟨w4.heap.size, 24, none⟩) 8 8) V := fun V => cut_arr arr25 V w4.heap.size 0 24 24 rfl (by omega)
      have k7 : ∀ V, Sem.run Tryd.prog (Instr.sliceAt 25 (.pointer (some ⟨w4.heap.size, 0, none⟩)) (some (.int .i64 28)) none none) V = .ok (.slice (some ⟨w4.heap.size, 28, none⟩) 4 4) V := fun V => cut_arr arr25 V w4.heap.size 0 28 28 rfl (by omega)
      go_wp2
      refine wp_loop_rounds 9 ?_
      have P0 : Hid (Blk (w4.alloc (.cells #[.int .u8 0, .int .u8 0, .int .u8 0, .int .u8 0, .int .u8 0, .int .u8 0, .int .u8 0, .int .u8 0, .int .u8 0, .int .u8 0, .int .u8 0, .int .u8 0, .int .u8 0, .int .u8 0, .int .u8 0, .int .u8 0, .int .u8 0, .int .u8 0, .int .u8 0, .int .u8 0, .int .u8 0, .int .u8 0, .int .u8 0, .int .u8 0, .int .u8 0, .int .u8 0, .int .u8 0, .int .u8 0, .int .u8 0, .int .u8 0, .int .u8 0, .int .u8 0] 25)) w4.heap.size 25 (bcs [])) := Blk.new w4 (bcs []) 25
      have O0 : Hid (Only w4.heap.size (w4.alloc (.cells #[.int .u8 0, .int .u8 0, .int .u8 0, .int .u8 0, .int .u8 0, .int .u8 0, .int .u8 0, .int .u8 0, .int .u8 0, .int .u8 0, .int .u8 0, .int .u8 0, .int .u8 0, .int .u8 0, .int .u8 0, .int .u8 0, .int .u8 0, .int .u8 0, .int .u8 0, .int .u8 0, .int .u8 0, .int .u8 0, .int .u8 0, .int .u8 0, .int .u8 0, .int .u8 0, .int .u8 0, .int .u8 0, .int .u8 0, .int .u8 0, .int .u8 0, .int .u8 0] 25)) (w4.alloc (.cells #[.int .u8 0, .int .u8 0, .int .u8 0, .int .u8 0, .int .u8 0, .int .u8 0, .int .u8 0, .int .u8 0, .int .u8 0, .int .u8 0, .int .u8 0, .int .u8 0, .int .u8 0, .int .u8 0, .int .u8 0, .int .u8 0, .int .u8 0, .int .u8 0, .int .u8 0, .int .u8 0, .int .u8 0, .int .u8 0, .int .u8 0, .int .u8 0, .int .u8 0, .int .u8 0, .int .u8 0, .int .u8 0, .int .u8 0, .int .u8 0, .int .u8 0, .int .u8 0] 25))) := Only.refl _ _
      rw [rounds_succ]
      go_wp2_with (go_at_call 19; fail)
      refine (put_at w4.heap.size 0 32 [] x0 _ rfl rfl (by decide) P0.out).mono ?_
      rintro e v0 ⟨rfl, hb, ho⟩
      have P1 : Hid (Blk v0 w4.heap.size 25 (bcs [x0])) := hb
      have O1 := Lib.hid (O0.out.trans ho)
      clear hb ho P0 O0
      go_wp2
      rw [rounds_succ]
      go_wp2_with (go_at_call 19; fail)
      refine (put_at w4.heap.size 4 28 [x0] x1 _ rfl rfl (by show _ < 8; simp only [List.length_cons, List.length_nil]; omega) P1.out).mono ?_
      rintro e v1 ⟨rfl, hb, ho⟩
      have P2 : Hid (Blk v1 w4.heap.size 25 (bcs [x0, x1])) := hb
      have O2 := Lib.hid (O1.out.trans ho)
      clear hb ho P1 O1
      go_wp2
      rw [rounds_succ]
      go_wp2_with (go_at_call 19; fail)
      refine (put_at w4.heap.size 8 24 [x0, x1] x2 _ rfl rfl (by show _ < 8; simp only [List.length_cons, List.length_nil]; omega) P2.out).mono ?_
      rintro e v2 ⟨rfl, hb, ho⟩
      have P3 : Hid (Blk v2 w4.heap.size 25 (bcs [x0, x1, x2])) := hb
      have O3 := Lib.hid (O2.out.trans ho)
      clear hb ho P2 O2
      go_wp2
      rw [rounds_succ]
      go_wp2_with (go_at_call 19; fail)
      refine (put_at w4.heap.size 12 20 [x0, x1, x2] x3 _ rfl rfl (by show _ < 8; simp only [List.length_cons, List.length_nil]; omega) P3.out).mono ?_
      rintro e v3 ⟨rfl, hb, ho⟩
      have P4 : Hid (Blk v3 w4.heap.size 25 (bcs [x0, x1, x2, x3])) := hb
      have O4 := Lib.hid (O3.out.trans ho)
      clear hb ho P3 O3
      go_wp2
      rw [rounds_succ]
      go_wp2_with (go_at_call 19; fail)
      refine (put_at w4.heap.size 16 16 [x0, x1, x2, x3] x4 _ rfl rfl (by show _ < 8; simp only [List.length_cons, List.length_nil]; omega) P4.out).mono ?_
      rintro e v4 ⟨rfl, hb, ho⟩
      have P5 : Hid (Blk v4 w4.heap.size 25 (bcs [x0, x1, x2, x3, x4])) := hb
      have O5 := Lib.hid (O4.out.trans ho)
      clear hb ho P4 O4
      go_wp2
      rw [rounds_succ]
      go_wp2_with (go_at_call 19; fail)
      refine (put_at w4.heap.size 20 12 [x0, x1, x2, x3, x4] x5 _ rfl rfl (by show _ < 8; simp only [List.length_cons, List.length_nil]; omega) P5.out).mono ?_
      rintro e v5 ⟨rfl, hb, ho⟩
      have P6 : Hid (Blk v5 w4.heap.size 25 (bcs [x0, x1, x2, x3, x4, x5])) := hb
      have O6 := Lib.hid (O5.out.trans ho)
      clear hb ho P5 O5
      go_wp2
      rw [rounds_succ]
      go_wp2_with (go_at_call 19; fail)
      refine (put_at w4.heap.size 24 8 [x0, x1, x2, x3, x4, x5] x6 _ rfl rfl (by show _ < 8; simp only [List.length_cons, List.length_nil]; omega) P6.out).mono ?_
      rintro e v6 ⟨rfl, hb, ho⟩
      have P7 : Hid (Blk v6 w4.heap.size 25 (bcs [x0, x1, x2, x3, x4, x5, x6])) := hb
      have O7 := Lib.hid (O6.out.trans ho)
      clear hb ho P6 O6
      go_wp2
      rw [rounds_succ]
      go_wp2_with (go_at_call 19; fail)
      refine (put_at w4.heap.size 28 4 [x0, x1, x2, x3, x4, x5, x6] x7 _ rfl rfl (by show _ < 8; simp only [List.length_cons, List.length_nil]; omega) P7.out).mono ?_
      rintro e v7 ⟨rfl, hb, ho⟩
      have P8 : Hid (Blk v7 w4.heap.size 25 (bcs [x0, x1, x2, x3, x4, x5, x6, x7])) := hb
      have O8 := Lib.hid (O7.out.trans ho)
      clear hb ho P7 O7
      go_wp2
      rw [rounds_succ]
      have hsha : bcs [x0, x1, x2, x3, x4, x5, x6, x7] = shaV m := by
        rw [← bcs_sha, ← HS.out]; rfl
      obtain ⟨SV, hSV⟩ : ∃ SV, SV = shaV m := ⟨_, rfl⟩
      have P9 : Hid (Blk v7 w4.heap.size 25 SV) := by rw [hSV, ← hsha]; exact P8.out
      have hl9 : SV.length = 32 := by rw [hSV]; exact sha_len m
      have h19 : ∀ v ∈ SV, v.oneCell' = true := by rw [hSV]; exact sha_one m
      have hR7 : Blk v7 w.heap.size 25 (zeros 32) := ((HR4.out.alloc _).other O8.out (by have := HBW4.out.size; have := HGG.out; omega))
      have HSV := Lib.hid hSV; have HL9 := Lib.hid hl9; have H19 := Lib.hid h19; have HR7 := Lib.hid hR7
      clear hsha hSV hl9 h19 hR7 P8 c0 c1 c2 c3 c4 c5 c6 c7 i0 i1 i2 i3 i4 i5 i6 i7 k0 k1 k2 k3 k4 k5 k6 k7
      go_wp2_with (first
        | (refine load_blk rfl 25 (.tmp 6) rfl w4.heap.size 0 SV SV rfl 25 P9.out (by rw [List.drop_zero, List.take_length]) _ Tryd.underlying25 rfl (by rw [HL9.out]; exact info25) ?_)
        | (refine store_blk rfl 25 (.tmp 2) (.tmp 33) rfl w.heap.size (zeros 32) SV rfl rfl 25 HR7.out (by rw [HL9.out]; exact info25) (by rw [HL9.out]; rfl) H19.out ?_; intro w9 HB9 HO9))
      refine bodyPost_ret (results_cell_row rfl _ _ w.heap.size 25 SV.toArray (0, 0) _ rfl HB9.out Tryd.underlying25 rfl (by rw [List.size_toArray, HL9.out]; exact info25)) rfl ?_
      refine ⟨by rw [HSV.out, HM.out], ?_⟩
      exact ((HBW4.out.alloc HBW4.out.size _).trans (O8.out.below (by exact HBW4.out.size))).trans (HO9.out.below (Nat.le_refl _))
end Go.Proofs.YtdpnkdliibccjaaDoor
