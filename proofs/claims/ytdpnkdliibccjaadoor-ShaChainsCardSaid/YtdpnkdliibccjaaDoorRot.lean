/-
  Turning words.
-/
import Derived.Test.YtdpnkdliibccjaaDoorPure
import Derived.Lib.SmallJoins
namespace Go.Proofs.YtdpnkdliibccjaaDoor
open Go.RowKit
set_option linter.unusedVariables false

theorem ret_u32 {a b : Int} (h : a = b) : Ending.returned (.int .u32 a) = .returned (.int .u32 b) := by rw [h]
theorem and31 (k : Nat) (h1 : 1 ≤ k) (h2 : k ≤ 31) : Go.bits .and .u64 (IntKind.u64.wrap (-(k : Int))) 31 = ((32 - k : Nat) : Int) := by
  have key : ∀ k : Fin 32, 1 ≤ k.val → Go.bits .and .u64 (IntKind.u64.wrap (-(k.val : Int))) 31 = ((32 - k.val : Nat) : Int) := by decide +kernel
  exact key ⟨k, by omega⟩ h1
theorem rot_eq (x : BitVec 32) (k : Nat) (h2 : k ≤ 31) : Go.bits .or .u32 ((x.toNat : Int) * 2 ^ (32 - k) % 4294967296) ((x.toNat : Int) / 2 ^ (32 - (32 - k))) = ((rr x k).toNat : Int) := by
  rw [shl_u32, show 32 - (32 - k) = k by omega, shr_u32, or_u32, BitVec.or_comm]; rfl
theorem rot_eq2 (x : BitVec 32) (k : Nat) : Go.bits .or .u32 ((x.toNat : Int) / 2 ^ k) ((x.toNat : Int) * 2 ^ (32 - k) % 4294967296) = ((rr x k).toNat : Int) := by
  rw [shl_u32, shr_u32, or_u32]; rfl
theorem rotl_any (x : BitVec 32) (k : Nat) (h1 : 1 ≤ k) (h2 : k ≤ 31) (w : World) : Calls Tryd.prog 27 #[.int .u32 (x.toNat : Int), .int .i64 (-(k : Int))] w fun e w' => e = .returned (.int .u32 ((rr x k).toNat : Int)) ∧ w = w' := by
  have ha := and31 k h1 h2
  obtain ⟨s, hs⟩ : ∃ s : Nat, s = 32 - k := ⟨_, rfl⟩
  rw [← hs] at ha
  have hx := x.isLt
  go_enter Tryd.func27, Tryd.ntmps27
  go_wp2
  go_ret
  exact ⟨ret_u32 (rot_eq x k h2), rfl⟩
/-- THE PROGRAM'S ROTATION. -/
theorem rotr_any (x : BitVec 32) (k : Nat) (h1 : 1 ≤ k) (h2 : k ≤ 31) (w : World) : Calls Tryd.prog 25 #[.int .u32 (x.toNat : Int), .int .i64 (k : Int)] w fun e w' => e = .returned (.int .u32 ((rr x k).toNat : Int)) ∧ w = w' := by
  have H := Lib.hid (rotl_any x k h1 h2 w)
  have hx := x.isLt
  go_enter Tryd.func25, Tryd.ntmps25
  go_wp2_with (go_at_call 27; refine H.out.mono ?_; rintro e w1 ⟨rfl, rfl⟩)
  go_ret
  exact ⟨rfl, rfl⟩
/-- THE DOCUMENT'S. -/
theorem rot32_any (x : BitVec 32) (k : Nat) (h1 : 1 ≤ k) (h2 : k ≤ 31) (w : World) : Calls Tryd.prog 22 #[.int .u32 (x.toNat : Int), .int .u64 (k : Int)] w fun e w' => e = .returned (.int .u32 ((rr x k).toNat : Int)) ∧ w = w' := by
  have hx := x.isLt
  go_enter Tryd.func22, Tryd.ntmps22
  go_wp2
  go_ret
  exact ⟨ret_u32 (rot_eq2 x k), rfl⟩

/-- Four bytes as a word. -/
theorem wd_at (l : List Int) (i : Nat) (hz : Bts l) (hi : i + 4 ≤ l.length) : ((wd l i).toNat : Int) = ((l.getD i 0 * 256 + l.getD (i + 1) 0) * 256 + l.getD (i + 2) 0) * 256 + l.getD (i + 3) 0 := by
  have h0 := hz i (by omega)
  have h1 := hz (i + 1) (by omega)
  have h2 := hz (i + 2) (by omega)
  have h3 := hz (i + 3) (by omega)
  unfold wd
  rw [BitVec.toNat_ofNat]
  generalize l.getD i 0 = a at *
  generalize l.getD (i + 1) 0 = b at *
  generalize l.getD (i + 2) 0 = c at *
  generalize l.getD (i + 3) 0 = d at *
  omega
theorem or_word (a b c d : Int) (ha : 0 ≤ a ∧ a ≤ 255) (hb : 0 ≤ b ∧ b ≤ 255) (hc : 0 ≤ c ∧ c ≤ 255) (hd : 0 ≤ d ∧ d ≤ 255) :
    Go.bits .or .u32 (Go.bits .or .u32 (Go.bits .or .u32 (a * 16777216) (b * 65536)) (c * 256)) d = ((a * 256 + b) * 256 + c) * 256 + d := by
  have hk : ∀ n : Int, 0 ≤ n → n < 2 ^ 32 → IntKind.u32.wrap n = n := fun n h0 h1 => by
    rw [IntKind.wrap_u32]; simp only [show (2 : Int) ^ 32 = 4294967296 from rfl] at h1; omega
  have e32 : (2 : Int) ^ 32 = 4294967296 := rfl
  have e24 : (2 : Int) ^ 24 = 16777216 := rfl
  have e16 : (2 : Int) ^ 16 = 65536 := rfl
  have e8 : (2 : Int) ^ 8 = 256 := rfl
  rw [bits_join .u32 32 (by decide) hk 24 (a * 16777216) (b * 65536) (by omega) (by rw [e24]; omega) (by rw [e32]; omega) (by omega) (by rw [e24]; omega) (by rw [e32]; omega),
    bits_join .u32 32 (by decide) hk 16 (a * 16777216 + b * 65536) (c * 256) (by omega) (by rw [e16]; omega) (by rw [e32]; omega) (by omega) (by rw [e16]; omega) (by rw [e32]; omega),
    bits_join .u32 32 (by decide) hk 8 (a * 16777216 + b * 65536 + c * 256) d (by omega) (by rw [e8]; omega) (by rw [e32]; omega) (by omega) (by rw [e8]; omega) (by rw [e32]; omega)]
  omega
theorem word_ok (g o n cap : Nat) (l : List Int) (i : Nat) (w : World) (hz : Bts l) (hi : i + 4 ≤ l.length) (h4 : 4 ≤ n) (hn : n ≤ 1000000) (hc : ∀ j, j < 4 → w.cell? ⟨g, o + j, none⟩ = some (.int .u8 (l.getD (i + j) 0))) :
    Calls Tryd.prog 26 #[.slice (some ⟨g, o, none⟩) n cap] w fun e w' => e = .returned (.int .u32 ((wd l i).toNat : Int)) ∧ w.drew = w' := by
  have hv := wd_at l i hz hi
  have c0 := hc 0 (by omega)
  have c1 := hc 1 (by omega)
  have c2 := hc 2 (by omega)
  have c3 := hc 3 (by omega)
  have h0 := hz i (by omega)
  have h1 := hz (i + 1) (by omega)
  have h2 := hz (i + 2) (by omega)
  have h3 := hz (i + 3) (by omega)
  rw [Nat.add_zero] at c0
  rw [Nat.add_zero] at c0
  generalize l.getD i 0 = a at *
  generalize l.getD (i + 1) 0 = b at *
  generalize l.getD (i + 2) 0 = c at *
  generalize l.getD (i + 3) 0 = d at *
  have HV := Lib.hid hv
  clear hv hc hz
  go_enter Tryd.func26, Tryd.ntmps26
  go_wp2
  go_region
  go_wp2
  go_ret
  exact ⟨ret_u32 (by rw [HV.out]; exact or_word a b c d h0 h1 h2 h3), rfl⟩

/-- Block g alone has been written. -/
structure Only (g : Nat) (w w' : World) : Prop where
  os : w'.os = w.os
  tape : w'.tape = w.tape
  output : w'.output = w.output
  size : w'.heap.size = w.heap.size
  block : ∀ k, k ≠ g → w'.heap[k]? = w.heap[k]?
theorem Only.refl (g : Nat) (w : World) : Only g w w := ⟨rfl, rfl, rfl, rfl, fun _ _ => rfl⟩
theorem Only.trans {g : Nat} {a b c : World} (h : Only g a b) (k : Only g b c) : Only g a c :=
  ⟨k.os.trans h.os, k.tape.trans h.tape, k.output.trans h.output, k.size.trans h.size, fun i hi => (k.block i hi).trans (h.block i hi)⟩
theorem Only.set {g : Nat} {a w : World} (h : Only g a w) (i : Nat) (u : Value) : Only g a (w.setCell ⟨g, i, none⟩ u) :=
  h.trans ⟨rfl, rfl, rfl, by simp [World.setCell], fun k hk => Below.heap_setCell _ _ _ _ hk⟩
theorem Only.drew {g : Nat} {a w : World} (h : Only g a w) : Only g a w.drew := ⟨h.os, h.tape, h.output, h.size, h.block⟩
theorem Only.below {g B : Nat} {w w' : World} (h : Only g w w') (hB : B ≤ g) : Below B w w' :=
  ⟨h.os, h.tape, h.output, Nat.le_of_eq h.size.symm, fun k hk => h.block k (by omega)⟩
/-- The cells of block g. -/
def Blk (w : World) (g t : Nat) (L : List Value) : Prop := w.heap[g]? = some (.cells L.toArray t (0, 0))
theorem Blk.cell {w : World} {g t j : Nat} {L : List Value} (h : Blk w g t L) (hj : j < L.length) : w.cell? ⟨g, j, none⟩ = some (L.getD j undef) := cell_of_block h hj
theorem Blk.free {w : World} {g t j : Nat} {L : List Value} (h : Blk w g t L) : w.frozen? ⟨g, j, none⟩ = false := by
  have h' : w.heap[g]? = some (.cells L.toArray t (0, 0)) := h
  simp [World.frozen?, h']
theorem Blk.set {w : World} {g t j : Nat} {L : List Value} (h : Blk w g t L) (u : Value) : Blk (w.setCell ⟨g, j, none⟩ u) g t (L.set j u) := by
  have := Go.Joins.block_setCell (i := j) (show w.heap[g]? = some (.cells L.toArray t (0, 0)) from h) u
  show (w.setCell ⟨g, j, none⟩ u).heap[g]? = _
  simpa using this
theorem Blk.drew {w : World} {g t : Nat} {L : List Value} (h : Blk w g t L) : Blk w.drew g t L := h
theorem Blk.other {w w' : World} {g k t : Nat} {L : List Value} (h : Blk w g t L) (ho : Only k w w') (hne : g ≠ k) : Blk w' g t L := (ho.block g hne).trans h
theorem Blk.below {w w' : World} {g t : Nat} {L : List Value} (h : Blk w g t L) (hB : Below w.heap.size w w') : Blk w' g t L :=
  (hB.block g ((Array.getElem?_eq_some_iff.1 h).1)).trans h
theorem Blk.lt {w : World} {g t : Nat} {L : List Value} (h : Blk w g t L) : g < w.heap.size := (Array.getElem?_eq_some_iff.1 h).1
theorem Blk.new (w : World) (L : List Value) (t : Nat) : Blk (w.alloc (.cells L.toArray t)) w.heap.size t L := heap_alloc_new _ _
theorem Blk.alloc {w : World} {g t : Nat} {L : List Value} (h : Blk w g t L) (o : Obj) : Blk (w.alloc o) g t L := h.below ((Below.refl _ _).alloc (Nat.le_refl _) _)

theorem set4 (L : List Value) (o : Nat) (a b c d : Value) (h : o + 4 ≤ L.length) : (((L.set o a).set (o + 1) b).set (o + 2) c).set (o + 3) d = splice L o [a, b, c, d] := by
  apply List.ext_getElem?
  intro i
  unfold splice
  by_cases h1 : i < o
  · rw [List.getElem?_set_ne (by omega), List.getElem?_set_ne (by omega), List.getElem?_set_ne (by omega), List.getElem?_set_ne (by omega), List.getElem?_append_left (by simp; omega), List.getElem?_take, if_pos h1]
  · rw [List.getElem?_append_right (by simp; omega), List.length_take, Nat.min_eq_left (by omega)]
    by_cases h2 : i < o + 4
    · obtain ⟨k, rfl⟩ : ∃ k, i = o + k := ⟨i - o, by omega⟩
      have hk : k < 4 := by omega
      match k, hk with
      | 0, _ => simp [List.getElem?_set]; omega
      | 1, _ => simp [List.getElem?_set]; omega
      | 2, _ => simp [List.getElem?_set]; omega
      | 3, _ => simp [List.getElem?_set]; omega
    · rw [List.getElem?_set_ne (by omega), List.getElem?_set_ne (by omega), List.getElem?_set_ne (by omega), List.getElem?_set_ne (by omega), List.getElem?_append_right (by simp; omega)]
      rw [List.getElem?_drop]; congr 1; simp; omega
theorem wb_ints (x : BitVec 32) : (wb x).map (Value.int .u8) = [.int .u8 ((x.toNat : Int) / 16777216), .int .u8 ((x.toNat : Int) / 65536 % 256), .int .u8 ((x.toNat : Int) / 256 % 256), .int .u8 ((x.toNat : Int) % 256)] := by
  have hx := x.isLt
  have e : ((x.toNat / 16777216 % 256 : Nat) : Int) = (x.toNat : Int) / 16777216 := by omega
  simp only [wb, List.map_cons, List.map_nil, e]
  rfl
/-- A word's bytes laid at a place. -/
theorem put_ok (g o n cap t : Nat) (L : List Value) (x : BitVec 32) (w : World) (hg : Blk w g t L) (h4 : 4 ≤ n) (hn : n ≤ 1000000) (ho : o + 4 ≤ L.length) :
    Calls Tryd.prog 19 #[.slice (some ⟨g, o, none⟩) n cap, .int .u32 (x.toNat : Int)] w fun e w' => e = .returned (.tuple #[]) ∧ Blk w' g t (splice L o ((wb x).map (Value.int .u8))) ∧ Only g w w' := by
  have c0 := hg.cell (j := o) (by omega)
  have c1 := hg.cell (j := o + 1) (by omega)
  have c2 := hg.cell (j := o + 2) (by omega)
  have c3 := hg.cell (j := o + 3) (by omega)
  have f0 := hg.free (j := o)
  have f1 := hg.free (j := o + 1)
  have f2 := hg.free (j := o + 2)
  have f3 := hg.free (j := o + 3)
  have HG := Lib.hid hg; have HS := Lib.hid (fun a b c d => set4 L o a b c d ho)
  have hx := x.isLt
  clear hg ho
  go_enter Tryd.func19, Tryd.ntmps19
  go_wp2
  go_end0
  refine ⟨rfl, ?_, (((Only.refl g w).set o _).set (o + 1) _ |>.set (o + 2) _).set (o + 3) _⟩
  rw [wb_ints, ← HS.out]
  exact ((((HG.out.set (j := o) _).set (j := o + 1) _).set (j := o + 2) _).set (j := o + 3) _)
end Go.Proofs.YtdpnkdliibccjaaDoor
