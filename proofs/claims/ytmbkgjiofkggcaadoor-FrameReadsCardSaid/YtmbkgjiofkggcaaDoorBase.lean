/-
  Bytes, sums and twins: contracts and plain facts.
-/
import Derived.Test.YtmbkgjiofkggcaaDoorProg
import Derived.WalkKit
import Derived.WalkSpells
import Derived.WalkSmall
import Derived.Outline
import Derived.Lib.Hide
import Derived.Deep.QuietTactic
import Derived.BigQuiet
import Derived.Laws.CopyOwn
import Derived.Laws.Rows
import Derived.Laws.AppendOwnNone
namespace Go.Proofs.YtmbkgjiofkggcaaDoor
open Go.RowKit
set_option linter.unusedVariables false

theorem cell_lt {w : World} {a : Addr} {v : Value} (h : w.cell? a = some v) : a.block < w.heap.size := by
  by_cases hb : a.block < w.heap.size
  · exact hb
  · simp [World.cell?, Array.getElem?_eq_none (Nat.le_of_not_lt hb)] at h
theorem cell_of_block {w : World} {g t j : Nat} {l : List Value} (h : w.heap[g]? = some (.cells l.toArray t (0, 0))) (hj : j < l.length) : w.cell? ⟨g, j, none⟩ = some (l.getD j undef) := by
  simp [World.cell?, h, List.getD, hj]
/-- THE BYTES zs LIE AT ao. -/
def Rd (w : World) (ao : Option Addr) (zs : List Int) : Prop :=
  zs = [] ∨ ∃ b o, ao = some ⟨b, o, none⟩ ∧ ∀ j, j < zs.length → w.cell? ⟨b, o + j, none⟩ = some (.int .u8 (zs.getD j 0))
/-- Each is a byte. -/
def Bts (zs : List Int) : Prop := ∀ j, j < zs.length → 0 ≤ zs.getD j 0 ∧ zs.getD j 0 ≤ 255
theorem Rd.nil (w : World) (ao : Option Addr) : Rd w ao [] := .inl rfl
theorem Rd.below {w w' : World} {ao : Option Addr} {zs : List Int} (h : Rd w ao zs) (hB : Below w.heap.size w w') : Rd w' ao zs := by
  rcases h with h | ⟨b, o, ha, hc⟩
  · exact .inl h
  · exact .inr ⟨b, o, ha, fun j hj => by have := hc j hj; rw [hB.cell (cell_lt this), this]⟩
theorem Rd.block {w : World} {g t : Nat} {zs : List Int} (h : w.heap[g]? = some (.cells (zs.map (Value.int .u8)).toArray t (0, 0))) : Rd w (some ⟨g, 0, none⟩) zs := by
  refine .inr ⟨g, 0, rfl, fun j hj => ?_⟩
  rw [Nat.zero_add, cell_of_block h (by simpa using hj)]
  simp [List.getD, hj]
theorem Rd.at {w : World} {ao : Option Addr} {zs : List Int} (h : Rd w ao zs) (h0 : 0 < zs.length) : ∃ b o, ao = some ⟨b, o, none⟩ ∧ ∀ j, j < zs.length → w.cell? ⟨b, o + j, none⟩ = some (.int .u8 (zs.getD j 0)) := by
  rcases h with h | h
  · subst h; simp at h0
  · exact h
theorem Bts.nil : Bts [] := fun j hj => by simp at hj
theorem Bts.take {a : List Int} (ha : Bts a) (k : Nat) : Bts (a.take k) := fun j hj => by
  simp at hj
  have := ha j (by omega)
  simpa [List.getD, List.getElem?_take, show j < k by omega] using this
theorem Bts.drop {a : List Int} (ha : Bts a) (k : Nat) : Bts (a.drop k) := fun j hj => by
  simp at hj
  have := ha (k + j) (by omega)
  simpa [List.getD] using this
/-- The cells of bytes, as the laws on append ask for them. -/
theorem Rd.cells {w : World} {ao : Option Addr} {zs : List Int} (h : Rd w ao zs) : ∀ ad, ao = some ad → ∀ j u, (zs.map (Value.int .u8))[j]? = some u → w.cell? (ad.add j) = some u := by
  intro ad had j u hu
  obtain ⟨hj, hu⟩ := List.getElem?_eq_some_iff.1 hu
  simp at hj
  obtain ⟨b, o, ha, hc⟩ := h.at (by omega)
  rw [had] at ha
  obtain rfl := Option.some.inj ha
  rw [Addr.add_lit, hc j hj, ← hu]
  simp [List.getD, hj]
theorem Rd.take {w : World} {ao : Option Addr} {zs : List Int} (h : Rd w ao zs) (k : Nat) : Rd w ao (zs.take k) := by
  rcases h with h | ⟨b, o, ha, hc⟩
  · exact .inl (by simp [h])
  · refine .inr ⟨b, o, ha, fun j hj => ?_⟩
    simp at hj
    rw [hc j (by omega)]
    simp [List.getD, show j < k by omega]
theorem Rd.drop {w : World} {b o : Nat} {zs : List Int} (h : Rd w (some ⟨b, o, none⟩) zs) (k : Nat) : Rd w (some ⟨b, o + k, none⟩) (zs.drop k) := by
  rcases h with h | ⟨b', o', ha, hc⟩
  · exact .inl (by simp [h])
  · cases ha
    refine .inr ⟨b, o + k, rfl, fun j hj => ?_⟩
    simp at hj
    rw [Nat.add_assoc, hc (k + j) (by omega)]
    simp [List.getD]
theorem Rd.of_owns {w : World} {base e g n cap : Nat} {zs : List Int} (h : w.ownsRow base e 1 (.slice (some ⟨g, 0, none⟩) n cap) n (zs.map (Value.int .u8))) : Rd w (some ⟨g, 0, none⟩) zs := by
  refine .inr ⟨g, 0, rfl, fun j hj => ?_⟩
  have hl := h.1
  rw [List.length_map] at hl
  rw [Nat.zero_add, h.cellAt j (by omega)]
  simp [List.getD, hj]
/-- A part: where its bytes lie, how many, of how much room, which. -/
structure Part where
  a : Option Addr
  l : Nat
  c : Nat
  z : List Int
/-- It is there. -/
structure Part.ok (w : World) (p : Part) : Prop where
  rd : Rd w p.a p.z
  len : p.z.length = p.l
  bts : Bts p.z
  small : p.l ≤ maxLen
  nil : p.a = none → p.c = 0
theorem Part.ok.below {w w' : World} {p : Part} (h : p.ok w) (hB : Below w.heap.size w w') : p.ok w' := ⟨h.rd.below hB, h.len, h.bts, h.small, h.nil⟩
/-- THE PARTS ps LIE AT ao. -/
def Ps (w : World) (ao : Option Addr) (ps : List Part) : Prop :=
  ps = [] ∨ ∃ b o, ao = some ⟨b, o, none⟩ ∧ ∀ r, (h : r < ps.length) → w.cell? ⟨b, o + r, none⟩ = some (.slice ps[r].a ps[r].l ps[r].c) ∧ ps[r].ok w
theorem Ps.nil (w : World) (ao : Option Addr) : Ps w ao [] := .inl rfl
theorem Ps.below {w w' : World} {ao : Option Addr} {ps : List Part} (h : Ps w ao ps) (hB : Below w.heap.size w w') : Ps w' ao ps := by
  rcases h with h | ⟨b, o, ha, hc⟩
  · exact .inl h
  · exact .inr ⟨b, o, ha, fun r hr => ⟨by rw [hB.cell (cell_lt (hc r hr).1)]; exact (hc r hr).1, (hc r hr).2.below hB⟩⟩
/-- All bytes, one behind the other. -/
def flat (ps : List Part) : List Int := ps.flatMap (·.z)
/-- The table. -/
def tab : List (BitVec 32) := [0x00000000#32, 0x1db71064#32, 0x3b6e20c8#32, 0x26d930ac#32, 0x76dc4190#32, 0x6b6b51f4#32, 0x4db26158#32, 0x5005713c#32,
  0xedb88320#32, 0xf00f9344#32, 0xd6d6a3e8#32, 0xcb61b38c#32, 0x9b64c2b0#32, 0x86d3d2d4#32, 0xa00ae278#32, 0xbdbdf21c#32]
def tb (k : Nat) : BitVec 32 := tab.getD k 0#32
/-- Four steps of the register. -/
def half (r : BitVec 32) : BitVec 32 := (r >>> 4) ^^^ tb (r.toNat % 16)
/-- A byte. -/
def upd (r : BitVec 32) (c : Int) : BitVec 32 := half (half (r ^^^ BitVec.ofInt 32 c))
def regs (r : BitVec 32) (zs : List Int) : BitVec 32 := zs.foldl upd r
/-- The sum of bytes. -/
def sumOf (zs : List Int) : BitVec 32 := ~~~ regs 0xffffffff#32 zs
theorem regs_append (r : BitVec 32) (a b : List Int) : regs r (a ++ b) = regs (regs r a) b := by simp [regs]
theorem regs_take (r : BitVec 32) (zs : List Int) (k : Nat) (hk : k < zs.length) : regs r (zs.take (k + 1)) = upd (regs r (zs.take k)) (zs.getD k 0) := by
  rw [List.take_succ_eq_append_getElem hk, regs_append]
  simp [regs, List.getD, hk]
theorem flat_take (ps : List Part) (k : Nat) (hk : k < ps.length) : flat (ps.take (k + 1)) = flat (ps.take k) ++ ps[k].z := by
  rw [List.take_succ_eq_append_getElem hk]; simp only [flat, List.flatMap_append, List.flatMap_cons, List.flatMap_nil, List.append_nil]
theorem xor_u32 (a b : BitVec 32) : Go.bits .xor .u32 (a.toNat : Int) (b.toNat : Int) = ((a ^^^ b).toNat : Int) := by
  have h1 : BitVec.ofInt 32 (a.toNat : Int) = a := by rw [BitVec.ofInt_natCast]; simp
  have h2 : BitVec.ofInt 32 (b.toNat : Int) = b := by rw [BitVec.ofInt_natCast]; simp
  show IntKind.u32.wrap ((BitVec.ofInt 32 (a.toNat : Int) ^^^ BitVec.ofInt 32 (b.toNat : Int)).toNat : Int) = _
  rw [h1, h2, IntKind.wrap_u32]
  have := (a ^^^ b).isLt
  omega
theorem xor_byte (a : BitVec 32) (c : Int) (h0 : 0 ≤ c) (h1 : c ≤ 255) : Go.bits .xor .u32 (a.toNat : Int) c = ((a ^^^ BitVec.ofInt 32 c).toNat : Int) := by
  have e : c = (((BitVec.ofInt 32 c).toNat : Nat) : Int) := by
    rw [BitVec.toNat_ofInt]; omega
  conv => lhs; rw [e]
  exact xor_u32 _ _
theorem shr_u32 (a : BitVec 32) : ((a.toNat : Nat) : Int) / (16 : Int) = (((a >>> 4).toNat : Nat) : Int) := by
  rw [BitVec.toNat_ushiftRight, Nat.shiftRight_eq_div_pow]; omega
theorem and_u32 (a : BitVec 32) : Go.bits .and .u32 (a.toNat : Int) 15 = ((a.toNat % 16 : Nat) : Int) := by
  have h1 : BitVec.ofInt 32 (a.toNat : Int) = a := by rw [BitVec.ofInt_natCast]; simp
  show IntKind.u32.wrap ((BitVec.ofInt 32 (a.toNat : Int) &&& BitVec.ofInt 32 15).toNat : Int) = _
  rw [h1, BitVec.toNat_and, show (BitVec.ofInt 32 15).toNat = 2 ^ 4 - 1 by decide, Nat.and_two_pow_sub_one_eq_mod, IntKind.wrap_u32]
  omega
theorem half_int (a : BitVec 32) : Go.bits .xor .u32 ((a >>> 4).toNat : Int) ((tb (a.toNat % 16)).toNat : Int) = ((half a).toNat : Int) := xor_u32 _ _
theorem not_u32 (a : BitVec 32) : Go.bits .xor .u32 IntKind.u32.max (a.toNat : Int) = ((~~~ a).toNat : Int) := by
  have e : IntKind.u32.max = (((0xffffffff#32 : BitVec 32).toNat : Nat) : Int) := by decide
  rw [e, xor_u32]
  congr 2
/-- The table in memory. -/
def Tab (w : World) : Prop := ∀ k, k < 16 → w.cell? ⟨0, k, none⟩ = some (.int .u32 ((tb k).toNat : Int))
theorem Tab.below {w w' : World} (h : Tab w) (hB : Below w.heap.size w w') : Tab w' := fun k hk => by rw [hB.cell (cell_lt (h k hk))]; exact h k hk
/-- A byte's round, number by number. -/
theorem upd_ints {w : World} (hT : Tab w) (X : BitVec 32) (c : Int) (h0 : 0 ≤ c) (h1 : c ≤ 255) : ∃ (a s t b s' t' : Int) (i i' : Nat),
    Go.bits .xor .u32 (X.toNat : Int) c = a ∧ a / 16 = s ∧ Go.bits .and .u32 a 15 = (i : Int) ∧ i < 16 ∧ w.cell? ⟨0, i, none⟩ = some (.int .u32 t) ∧ Go.bits .xor .u32 s t = b ∧
    b / 16 = s' ∧ Go.bits .and .u32 b 15 = (i' : Int) ∧ i' < 16 ∧ w.cell? ⟨0, i', none⟩ = some (.int .u32 t') ∧ Go.bits .xor .u32 s' t' = ((upd X c).toNat : Int) :=
  ⟨_, _, _, _, _, _, _, _, xor_byte X c h0 h1, shr_u32 _, and_u32 _, Nat.mod_lt _ (by decide), hT _ (Nat.mod_lt _ (by decide)), half_int _, shr_u32 _, and_u32 _, Nat.mod_lt _ (by decide), hT _ (Nat.mod_lt _ (by decide)), half_int _⟩
theorem sum_some (b o n cap : Nat) (ps : List Part) (w : World) (hl : ps.length = n) (hm : n ≤ maxLen) (hT : Tab w) (hc : ∀ r, (h : r < ps.length) → w.cell? ⟨b, o + r, none⟩ = some (.slice ps[r].a ps[r].l ps[r].c) ∧ ps[r].ok w) :
    Calls Tryd.prog 49 #[.slice (some ⟨b, o, none⟩) n cap] w fun e w' => e = .returned (.int .u32 ((sumOf (flat ps)).toNat : Int)) ∧ w = w' := by
  unfold maxLen at hm
  have HL := Lib.hid hl; have HT := Lib.hid hT; have HC := Lib.hid hc
  clear hl hT hc
  go_enter Tryd.func49, Tryd.ntmps49
  go_wp2
  go_loop [3, 10] (fun g i => ∃ k : Nat, k ≤ n ∧ i = .int .i64 k ∧ g = .int .u32 ((regs 0xffffffff#32 (flat (ps.take k))).toNat : Int)) (fun _ i => n - (intOf i).toNat)
  case atStart => exact ⟨0, Nat.zero_le _, rfl, rfl⟩
  case round =>
    obtain ⟨k, hk, rfl, rfl⟩ := hrel
    by_cases hlt : k < n
    · obtain ⟨hcell, hok⟩ := HC.out k (by rw [HL.out]; exact hlt)
      have HF := Lib.hid (flat_take ps k (by rw [HL.out]; exact hlt))
      generalize ps[k]'(by rw [HL.out]; exact hlt) = p at hcell hok HF
      obtain ⟨pa, pl, pc, pz⟩ := p
      have HOK := Lib.hid hok
      have hpm : pl ≤ 2 ^ 63 - 1 := by have := hok.small; unfold maxLen at this; exact this
      clear hok
      obtain ⟨R, hR⟩ : ∃ R, R = regs 0xffffffff#32 (flat (ps.take k)) := ⟨_, rfl⟩
      rw [← hR]
      have HR := Lib.hid hR
      clear hR
      go_wp2
      go_loop [3, 16] (fun g i => ∃ j : Nat, j ≤ pl ∧ i = .int .i64 j ∧ g = .int .u32 ((regs R (pz.take j)).toNat : Int)) (fun _ i => pl - (intOf i).toNat)
      case atStart => exact ⟨0, Nat.zero_le _, rfl, rfl⟩
      case round =>
        obtain ⟨j, hj, rfl, rfl⟩ := hrel
        by_cases hlj : j < pl
        · have hpl : pz.length = pl := HOK.out.len
          obtain ⟨pb, po, hpa, hcc⟩ := HOK.out.rd.at (by show 0 < pz.length; omega)
          simp only at hpa
          subst hpa
          replace hcc := hcc j (by show j < pz.length; omega)
          have hbd := HOK.out.bts j (by show j < pz.length; omega)
          have HN := Lib.hid (regs_take R pz j (by omega))
          simp only at hcc hbd
          obtain ⟨c, hc⟩ : ∃ c, c = pz.getD j 0 := ⟨_, rfl⟩
          obtain ⟨X, hX⟩ : ∃ X, X = regs R (pz.take j) := ⟨_, rfl⟩
          rw [← hX] at HN ⊢
          rw [← hc] at hcc hbd HN
          obtain ⟨hb0, hb1⟩ := hbd
          have em : c % 4294967296 = c := by omega
          obtain ⟨a, s, t, d, s', t', i1, i2, e1, e2, e3, e4, e5, e6, f2, f3, f4, f5, f6⟩ := upd_ints HT.out X c hb0 hb1
          obtain ⟨Y, hY⟩ : ∃ Y, Y = upd X c := ⟨_, rfl⟩
          rw [← hY] at f6 HN
          clear hX hc hY HOK HT HC HL
          go_wp2
          go_round
          case rel => exact ⟨j + 1, by omega, by go_num, by rw [HN.out]⟩
          case measure => simp [intOf]; omega
        · obtain rfl : j = pl := by omega
          have hpl : pz.length = j := HOK.out.len
          rw [List.take_of_length_le (by omega)]
          have HN : Hid (regs 0xffffffff#32 (flat (ps.take (k + 1))) = regs R pz) := by show _ = _; rw [HF.out, regs_append, ← HR.out]
          clear HOK HT HC HL hpl
          go_wp2
          go_round
          case rel => exact ⟨k + 1, by omega, by go_num, by rw [HN.out]⟩
          case measure => simp [intOf]; omega
    · obtain rfl : k = n := by omega
      have hk' := HL.out
      rw [List.take_of_length_le (by omega)]
      have e := not_u32 (regs 0xffffffff#32 (flat ps))
      have e2 : ~~~ regs 0xffffffff#32 (flat ps) = sumOf (flat ps) := rfl
      rw [e2] at e
      obtain ⟨S, hS⟩ : ∃ S, S = sumOf (flat ps) := ⟨_, rfl⟩
      rw [← hS] at e
      have HS := Lib.hid hS
      generalize regs 0xffffffff#32 (flat ps) = R at e ⊢
      clear HL HT HC e2 hk' hS
      go_wp2
      go_ret
      exact ⟨by rw [← HS.out]; rfl, rfl⟩
theorem sum_zero (ao : Option Addr) (cap : Nat) (w : World) :
    Calls Tryd.prog 49 #[.slice ao 0 cap] w fun e w' => e = .returned (.int .u32 ((sumOf []).toNat : Int)) ∧ w = w' := by
  go_enter Tryd.func49, Tryd.ntmps49
  go_wp2
  refine wp_loop_rounds 1 ?_
  rw [rounds_succ]
  go_wp2
  go_ret
  exact ⟨rfl, rfl⟩
/-- THE SUM OF ANY PARTS. -/
theorem sum_any (ao : Option Addr) (n cap : Nat) (ps : List Part) (w : World) (hl : ps.length = n) (hm : n ≤ maxLen) (hT : Tab w) (h : Ps w ao ps) :
    Calls Tryd.prog 49 #[.slice ao n cap] w fun e w' => e = .returned (.int .u32 ((sumOf (flat ps)).toNat : Int)) ∧ w = w' := by
  rcases h with rfl | ⟨b, o, rfl, hc⟩
  · obtain rfl : n = 0 := hl.symm
    exact sum_zero ao cap w
  · exact sum_some b o n cap ps w hl hm hT hc
/-- A row of bytes, just made. -/
theorem part_new (w : World) (zs : List Int) (t : Nat) (fr : Nat × Nat) (hz : Bts zs) (hm : zs.length ≤ maxLen) : Part.ok (w.alloc (.cells (zs.map (Value.int .u8)).toArray t fr)) ⟨some ⟨w.heap.size, 0, none⟩, zs.length, zs.length, zs⟩ :=
  ⟨.inr ⟨w.heap.size, 0, rfl, fun j hj => by rw [Nat.zero_add, World.cell?_alloc_mark]; simp only at hj; simp [List.getD, hj]⟩, rfl, hz, hm, fun h => by cases h⟩
def Part.v (p : Part) : Value := .slice p.a p.l p.c
/-- A row of parts, just made. -/
theorem ps_new (w : World) (ps : List Part) (t : Nat) (h : ∀ r, (h : r < ps.length) → ps[r].ok w) : Ps (w.alloc (.cells (ps.map Part.v).toArray t)) (some ⟨w.heap.size, 0, none⟩) ps :=
  .inr ⟨w.heap.size, 0, rfl, fun r hr => ⟨by rw [Nat.zero_add, World.cell?_alloc_mark]; simp [hr, Part.v], (h r hr).below ((Below.refl _ _).alloc (Nat.le_refl _) _)⟩⟩
theorem info29 : (Tryd.prog.info? 51).map (·.size) = some 4 := by kernel_rfl
theorem bytes_any (ao : Option Addr) (n cap : Nat) (ps : List Part) (w : World) (s : Int) (hs : s = ((sumOf (flat ps)).toNat : Int)) (hl : ps.length = n) (hm : n ≤ maxLen) (hT : Tab w) (h : Ps w ao ps) :
    Calls Tryd.prog 32 #[.slice ao n cap] w fun e w' => e = .returned (.agg #[.int .u8 (s % 256), .int .u8 (s / 256 % 256), .int .u8 (s / 65536 % 256), .int .u8 (s / 16777216)]) ∧ Below w.heap.size w w' := by
  have HS := Lib.hid (fun w1 (hB : Below w.heap.size w w1) => sum_any ao n cap ps w1 hl hm (hT.below hB) (h.below hB))
  have hlt : 0 ≤ s ∧ s < 4294967296 := by rw [hs]; have := (sumOf (flat ps)).isLt; omega
  rw [← hs] at HS
  obtain ⟨h0, h1⟩ := hlt
  clear hl hm hT h hs
  go_enter Tryd.func32, Tryd.ntmps32
  go_wp2_with (go_at_call 49; refine (HS.out _ ?_).mono ?_; exact (Below.refl _ _).alloc (Nat.le_refl _) _; rintro e w1 ⟨rfl, rfl⟩)
  refine bodyPost_ret (results_cell_row rfl _ _ w.heap.size 51 _ (0, 0) _ rfl (heap_alloc_new _ _) Tryd.underlying51 rfl info29) rfl ?_
  exact ⟨rfl, (Below.refl _ _).alloc (Nat.le_refl _) _⟩
/-- A bit's step of an unbounded register. -/
def B (n : Nat) : Nat := n / 2 ^^^ (if n % 2 = 1 then 0xedb88320 else 0)
def Bn : Nat → Nat → Nat
  | 0, n => n
  | k + 1, n => Bn k (B n)
theorem xor_swap (a b c d : Nat) : (a ^^^ b) ^^^ (c ^^^ d) = (a ^^^ c) ^^^ (b ^^^ d) := by
  rw [Nat.xor_assoc, ← Nat.xor_assoc b, Nat.xor_comm b c, Nat.xor_assoc c, ← Nat.xor_assoc a]
theorem B_xor (a b : Nat) : B (a ^^^ b) = B a ^^^ B b := by
  unfold B
  rw [Nat.xor_div_two, xor_swap]
  congr 1
  have h : (a ^^^ b) % 2 = (a % 2) ^^^ (b % 2) := Nat.xor_mod_two_pow (n := 1)
  rw [h]
  rcases Nat.mod_two_eq_zero_or_one a with h1 | h1 <;> rcases Nat.mod_two_eq_zero_or_one b with h2 | h2 <;> rw [h1, h2] <;> decide
theorem Bn_xor : ∀ (k a b : Nat), Bn k (a ^^^ b) = Bn k a ^^^ Bn k b
  | 0, _, _ => rfl
  | k + 1, a, b => by show Bn k (B _) = _; rw [B_xor, Bn_xor k]; rfl
theorem Bn_add : ∀ (j k n : Nat), Bn (j + k) n = Bn k (Bn j n)
  | 0, k, n => by rw [Nat.zero_add]; rfl
  | j + 1, k, n => by rw [show j + 1 + k = (j + k) + 1 by omega]; show Bn (j + k) (B n) = _; rw [Bn_add j k]; rfl
theorem B_even (m : Nat) : B (m * 2) = m := by unfold B; rw [if_neg (by omega), Nat.xor_zero]; omega
theorem Bn_pow : ∀ (k m : Nat), Bn k (m * 2 ^ k) = m
  | 0, m => by simp [Bn]
  | k + 1, m => by
    show Bn k (B _) = m
    rw [Nat.pow_succ, ← Nat.mul_assoc, B_even, Bn_pow k m]
theorem B_lt (n : Nat) (h : n < 2 ^ 32) : B n < 2 ^ 32 := by
  unfold B
  refine Nat.xor_lt_two_pow (by omega) ?_
  split <;> decide
theorem B_ne (n : Nat) (h : n < 2 ^ 32) (h0 : n ≠ 0) : B n ≠ 0 := by
  unfold B
  intro e
  split at e
  · have : n / 2 = 0xedb88320 := by
      have := congrArg (· ^^^ 0xedb88320) e
      simpa [Nat.xor_assoc] using this
    omega
  · simp at e; omega
theorem Bn_ne : ∀ (k n : Nat), n < 2 ^ 32 → n ≠ 0 → Bn k n ≠ 0
  | 0, _, _, h => h
  | k + 1, n, h, h0 => Bn_ne k (B n) (B_lt n h) (B_ne n h h0)
theorem mul_xor (k q t : Nat) (h : t < 2 ^ k) : q * 2 ^ k + t = (q * 2 ^ k) ^^^ t := by
  apply Nat.eq_of_testBit_eq
  intro j
  rw [Nat.mul_comm, Nat.testBit_two_pow_mul_add q h, Nat.testBit_xor, Nat.testBit_two_pow_mul]
  by_cases hj : j < k
  · simp [hj, show ¬ k ≤ j by omega]
  · have : t.testBit j = false := Nat.testBit_lt_two_pow (Nat.lt_of_lt_of_le h (Nat.pow_le_pow_right (by decide) (by omega)))
    simp [hj, this, show k ≤ j by omega]
theorem tb_bits : ∀ t : Fin 16, (tb t.val).toNat = Bn 4 t.val := by decide +kernel
theorem half_nat (r : BitVec 32) : (half r).toNat = Bn 4 r.toNat := by
  have e : r.toNat = (r.toNat / 16) * 2 ^ 4 + r.toNat % 16 := by omega
  have hx := mul_xor 4 (r.toNat / 16) (r.toNat % 16) (Nat.mod_lt _ (by decide))
  unfold half
  rw [BitVec.toNat_xor, BitVec.toNat_ushiftRight, Nat.shiftRight_eq_div_pow]
  conv => rhs; rw [e, hx, Bn_xor, Bn_pow]
  rw [← tb_bits ⟨r.toNat % 16, Nat.mod_lt _ (by decide)⟩]
theorem upd_nat (r : BitVec 32) (c : Int) (h0 : 0 ≤ c) (h1 : c ≤ 255) : (upd r c).toNat = Bn 8 (r.toNat ^^^ c.toNat) := by
  unfold upd
  rw [half_nat, half_nat, BitVec.toNat_xor, BitVec.toNat_ofInt, ← Bn_add 4 4]
  congr 2
  omega
/-- A text as a number, the first byte the lowest. -/
def nm : List Int → Nat
  | [] => 0
  | c :: l => c.toNat + 256 * nm l
theorem bts_cons {c : Int} {l : List Int} (h : Bts (c :: l)) : 0 ≤ c ∧ c ≤ 255 ∧ Bts l := by
  have h0 := h 0 (by simp)
  simp [List.getD] at h0
  refine ⟨h0.1, h0.2, fun j hj => ?_⟩
  have := h (j + 1) (by simp; omega)
  simpa [List.getD] using this
theorem nm_cons (c : Int) (l : List Int) (h0 : 0 ≤ c) (h1 : c ≤ 255) : nm (c :: l) = (nm l * 2 ^ 8) ^^^ c.toNat := by
  rw [← mul_xor 8 _ _ (by omega)]
  show c.toNat + 256 * nm l = _
  omega
theorem regs_nat : ∀ (l : List Int) (r : BitVec 32), Bts l → (regs r l).toNat = Bn (8 * l.length) (r.toNat ^^^ nm l)
  | [], r, _ => by simp [regs, nm, Bn]
  | c :: l, r, h => by
    obtain ⟨h0, h1, h2⟩ := bts_cons h
    show (regs (upd r c) l).toNat = _
    rw [regs_nat l _ h2, upd_nat r c h0 h1, nm_cons c l h0 h1, List.length_cons, show 8 * (l.length + 1) = 8 + 8 * l.length by omega, Bn_add, Nat.xor_comm (nm l * 2 ^ 8), ← Nat.xor_assoc, Bn_xor 8 _ (nm l * 2 ^ 8), Bn_pow]
/-- The sum as a number. -/
def S (l : List Int) : Nat := 0xffffffff ^^^ Bn (8 * l.length) (0xffffffff ^^^ nm l)
theorem not_nat (r : BitVec 32) : (~~~ r).toNat = 0xffffffff ^^^ r.toNat := by
  have h : ~~~ r = 0xffffffff#32 ^^^ r := by
    have : (0xffffffff#32) = BitVec.allOnes 32 := by decide
    rw [this, BitVec.allOnes_xor]
  rw [h, BitVec.toNat_xor]; rfl
theorem sum_nat (l : List Int) (h : Bts l) : (sumOf l).toNat = S l := by
  unfold sumOf S
  rw [not_nat, regs_nat l _ h]; rfl
def bx (c d : Int) : Int := ((c.toNat ^^^ d.toNat : Nat) : Int)
def lx (a b : List Int) : List Int := List.zipWith bx a b
theorem bx_bd (c d : Int) (h0 : 0 ≤ c) (h1 : c ≤ 255) (h2 : 0 ≤ d) (h3 : d ≤ 255) : 0 ≤ bx c d ∧ bx c d ≤ 255 := by
  unfold bx
  have := Nat.xor_lt_two_pow (x := c.toNat) (y := d.toNat) (n := 8) (by omega) (by omega)
  omega
theorem nm_lx : ∀ a b : List Int, a.length = b.length → Bts a → Bts b → nm (lx a b) = nm a ^^^ nm b
  | [], [], _, _, _ => rfl
  | c :: l, d :: m, h, ha, hb => by
    obtain ⟨a0, a1, a2⟩ := bts_cons ha
    obtain ⟨b0, b1, b2⟩ := bts_cons hb
    have hx := bx_bd c d a0 a1 b0 b1
    show nm (bx c d :: lx l m) = _
    rw [nm_cons _ _ hx.1 hx.2, nm_cons c l a0 a1, nm_cons d m b0 b1, nm_lx l m (by simpa using h) a2 b2, xor_swap]
    congr 1
    apply Nat.eq_of_testBit_eq
    intro j
    rw [Nat.testBit_xor, Nat.mul_comm, Nat.mul_comm (nm l), Nat.mul_comm (nm m), Nat.testBit_two_pow_mul, Nat.testBit_two_pow_mul, Nat.testBit_two_pow_mul, Nat.testBit_xor]
    cases decide (j ≥ 8) <;> simp
  | [], _ :: _, h, _, _ => by simp at h
  | _ :: _, [], h, _, _ => by simp at h
/-- A number's bytes, the lowest first. -/
def l4 (s : Int) : List Int := [s % 256, s / 256 % 256, s / 65536 % 256, s / 16777216]
theorem nm_l4 (s : Nat) (h : s < 2 ^ 32) : nm (l4 s) = s := by
  simp only [nm, l4]; omega
theorem bts_l4 (s : Nat) (h : s < 2 ^ 32) : Bts (l4 s) := by
  intro j hj
  match j, hj with
  | 0, _ => simp only [l4, List.getD]; simp; omega
  | 1, _ => simp only [l4, List.getD]; simp; omega
  | 2, _ => simp only [l4, List.getD]; simp; omega
  | 3, _ => simp only [l4, List.getD]; simp; omega
theorem residue0 : 0xffffffff ^^^ Bn 32 0xffffffff = 0x2144df1c := by decide +kernel
/-- A TEXT WITH ITS SUM BEHIND IT. -/
theorem sum_res (l : List Int) : (sumOf (l ++ l4 ((sumOf l).toNat : Int))).toNat = 0x2144df1c := by
  have hs := (sumOf l).isLt
  have e : (sumOf l).toNat = 0xffffffff ^^^ (regs 0xffffffff#32 l).toNat := not_nat _
  unfold sumOf at *
  rw [not_nat, regs_append, regs_nat _ _ (bts_l4 _ hs), nm_l4 _ hs, e, Nat.xor_comm 4294967295 (regs _ l).toNat, ← Nat.xor_assoc, Nat.xor_self, Nat.zero_xor]
  exact residue0
theorem xor_cancel {a b c : Nat} (h : a ^^^ b = a ^^^ c) : b = c := by
  have := congrArg (a ^^^ ·) h
  simpa [← Nat.xor_assoc] using this
/-- TEXTS THAT DIFFER IN UP TO 32 BITS SIDE BY SIDE. -/
theorem sum_burst (b c : List Int) (V t : Nat) (hl : b.length = c.length) (hx : nm b ^^^ nm c = V * 2 ^ t) (ht : t ≤ 8 * b.length) (hV : V < 2 ^ 32) (h : S b = S c) : V = 0 := by
  unfold S at h
  have h1 := xor_cancel h
  rw [← hl] at h1
  have h2 : Bn (8 * b.length) (nm b ^^^ nm c) = 0 := by
    have e : nm b ^^^ nm c = (0xffffffff ^^^ nm b) ^^^ (0xffffffff ^^^ nm c) := by rw [xor_swap, Nat.xor_self, Nat.zero_xor]
    rw [e, Bn_xor, h1, Nat.xor_self]
  rw [hx, show 8 * b.length = t + (8 * b.length - t) by omega, Bn_add, Bn_pow] at h2
  by_cases h0 : V = 0
  · exact h0
  · exact absurd h2 (Bn_ne _ _ hV h0)
theorem nm_inj : ∀ a b : List Int, a.length = b.length → Bts a → Bts b → nm a = nm b → a = b
  | [], [], _, _, _, _ => rfl
  | c :: l, d :: m, h, ha, hb, e => by
    obtain ⟨a0, a1, a2⟩ := bts_cons ha
    obtain ⟨b0, b1, b2⟩ := bts_cons hb
    simp only [nm] at e
    have h1 : c = d := by omega
    have h2 : nm l = nm m := by omega
    rw [h1, nm_inj l m (by simpa using h) a2 b2 h2]
  | [], _ :: _, h, _, _, _ => by simp at h
  | _ :: _, [], h, _, _, _ => by simp at h
/-- A bit turned about. -/
def flip1 (zs : List Int) (p : Nat) : List Int := zs.set (p / 8) (bx (zs.getD (p / 8) 0) ((2 ^ (p % 8) : Nat) : Int))
/-- Up to k bits, side by side from bit t on. -/
def burst (zs : List Int) (t V : Nat) : Nat → List Int
  | 0 => zs
  | i + 1 => if V.testBit i = true then flip1 (burst zs t V i) (t + i) else burst zs t V i
theorem flip1_len (zs : List Int) (p : Nat) : (flip1 zs p).length = zs.length := by simp [flip1]
theorem burst_len (zs : List Int) (t V : Nat) : ∀ i, (burst zs t V i).length = zs.length
  | 0 => rfl
  | i + 1 => by
    unfold burst
    split
    · rw [flip1_len, burst_len zs t V i]
    · exact burst_len zs t V i
theorem flip1_bts {zs : List Int} {p : Nat} (h : Bts zs) (hp : p < 8 * zs.length) : Bts (flip1 zs p) := fun j hj => by
  rw [flip1_len] at hj
  have h1 := h j hj
  have hq := h (p / 8) (by omega)
  by_cases e : j = p / 8
  · subst e
    have h2 : 2 ^ (p % 8) ≤ 2 ^ 7 := Nat.pow_le_pow_right (by decide) (by omega)
    have := bx_bd (zs.getD (p / 8) 0) ((2 ^ (p % 8) : Nat) : Int) hq.1 hq.2 (Int.natCast_nonneg _) (by have : ((2 ^ (p % 8) : Nat) : Int) ≤ ((2 ^ 7 : Nat) : Int) := Int.ofNat_le.2 h2; omega)
    simpa [flip1, List.getD, hj] using this
  · have : (flip1 zs p).getD j 0 = zs.getD j 0 := by simp [flip1, List.getD, Ne.symm e]
    rw [this]; exact h1
theorem burst_bts {zs : List Int} {t V : Nat} (h : Bts zs) : ∀ i, t + i ≤ 8 * zs.length → Bts (burst zs t V i)
  | 0, _ => h
  | i + 1, hi => by
    unfold burst
    split
    · exact flip1_bts (burst_bts h i (by omega)) (by rw [burst_len]; omega)
    · exact burst_bts h i (by omega)
theorem pow8_xor (a b : Nat) : (a ^^^ b) * 2 ^ 8 = (a * 2 ^ 8) ^^^ (b * 2 ^ 8) := by
  apply Nat.eq_of_testBit_eq
  intro j
  rw [Nat.testBit_xor, Nat.mul_comm, Nat.mul_comm a, Nat.mul_comm b, Nat.testBit_two_pow_mul, Nat.testBit_two_pow_mul, Nat.testBit_two_pow_mul, Nat.testBit_xor]
  cases decide (j ≥ 8) <;> simp
theorem nm_flip1 : ∀ (zs : List Int) (p : Nat), Bts zs → p < 8 * zs.length → nm (flip1 zs p) = nm zs ^^^ 2 ^ p
  | [], p, _, hp => by simp at hp
  | c :: l, p, h, hp => by
    obtain ⟨h0, h1, h2⟩ := bts_cons h
    by_cases e : p < 8
    · have e1 : p / 8 = 0 := by omega
      have e2 : p % 8 = p := by omega
      have hf : flip1 (c :: l) p = bx c ((2 ^ p : Nat) : Int) :: l := by simp [flip1, e1, e2, List.getD]
      have h3 : 2 ^ p ≤ 2 ^ 7 := Nat.pow_le_pow_right (by decide) (by omega)
      have hb := bx_bd c ((2 ^ p : Nat) : Int) h0 h1 (Int.natCast_nonneg _) (by have : ((2 ^ p : Nat) : Int) ≤ ((2 ^ 7 : Nat) : Int) := Int.ofNat_le.2 h3; omega)
      rw [hf, nm_cons _ _ hb.1 hb.2, nm_cons c l h0 h1, Nat.xor_assoc]
      rfl
    · obtain ⟨q, rfl⟩ : ∃ q, p = q + 8 := ⟨p - 8, by omega⟩
      have e1 : (q + 8) / 8 = q / 8 + 1 := by omega
      have hf : flip1 (c :: l) (q + 8) = c :: flip1 l q := by
        have e2 : (q + 8) % 8 = q % 8 := by omega
        unfold flip1
        rw [e1, e2]
        simp [List.getD]
      rw [hf, nm_cons c _ h0 h1, nm_cons c l h0 h1, nm_flip1 l q h2 (by simp at hp; omega), pow8_xor, Nat.xor_assoc, Nat.xor_assoc, Nat.xor_comm c.toNat, Nat.pow_add]
theorem mod_succ (V i : Nat) : V % 2 ^ (i + 1) = if V.testBit i = true then (V % 2 ^ i) ^^^ 2 ^ i else V % 2 ^ i := by
  apply Nat.eq_of_testBit_eq
  intro j
  split
  · rename_i h
    rw [Nat.testBit_xor, Nat.testBit_mod_two_pow, Nat.testBit_mod_two_pow, Nat.testBit_two_pow]
    by_cases e : j = i
    · subst e; simp [h]
    · have : decide (j < i + 1) = decide (j < i) := by rw [decide_eq_decide]; omega
      simp [this, Ne.symm e]
  · rename_i h
    rw [Nat.testBit_mod_two_pow, Nat.testBit_mod_two_pow]
    by_cases e : j = i
    · subst e; simp [h]
    · have : decide (j < i + 1) = decide (j < i) := by rw [decide_eq_decide]; omega
      rw [this]
theorem mul_pow_xor (a b t : Nat) : (a ^^^ b) * 2 ^ t = (a * 2 ^ t) ^^^ (b * 2 ^ t) := by
  apply Nat.eq_of_testBit_eq
  intro j
  rw [Nat.testBit_xor, Nat.mul_comm, Nat.mul_comm a, Nat.mul_comm b, Nat.testBit_two_pow_mul, Nat.testBit_two_pow_mul, Nat.testBit_two_pow_mul, Nat.testBit_xor]
  cases decide (j ≥ t) <;> simp
theorem nm_burst {zs : List Int} {t V : Nat} (h : Bts zs) : ∀ i, t + i ≤ 8 * zs.length → nm (burst zs t V i) = nm zs ^^^ ((V % 2 ^ i) * 2 ^ t)
  | 0, _ => by simp [burst, Nat.mod_one]
  | i + 1, hi => by
    have ih := nm_burst (t := t) (V := V) h i (by omega)
    rw [mod_succ]
    unfold burst
    split
    · rw [nm_flip1 (burst zs t V i) (t + i) (burst_bts h i (by omega)) (by rw [burst_len]; omega), ih, mul_pow_xor, Nat.xor_assoc, Nat.pow_add, Nat.mul_comm (2 ^ i)]
    · exact ih
/-- A TEXT, AND ONE THAT DIFFERS FROM IT IN SOME OF UP TO 32 BITS SIDE BY SIDE: like sums are of like texts. -/
theorem sum_unlike (zs : List Int) (t V i : Nat) (h : Bts zs) (hi : t + i ≤ 8 * zs.length) (h32 : i ≤ 32) (hs : (sumOf zs).toNat = (sumOf (burst zs t V i)).toNat) : V % 2 ^ i = 0 := by
  rw [sum_nat _ h, sum_nat _ (burst_bts h i hi)] at hs
  refine sum_burst zs (burst zs t V i) (V % 2 ^ i) t (burst_len zs t V i).symm ?_ (by omega) ?_ hs
  · rw [nm_burst h i hi, ← Nat.xor_assoc, Nat.xor_self, Nat.zero_xor]
  · exact Nat.lt_of_lt_of_le (Nat.mod_lt _ (Nat.pow_pos (by decide))) (Nat.pow_le_pow_right (by decide) h32)
theorem burst_same (zs : List Int) (t V i : Nat) (h : Bts zs) (hi : t + i ≤ 8 * zs.length) : zs = burst zs t V i ↔ V % 2 ^ i = 0 := by
  constructor
  · intro e
    have := nm_burst (V := V) h i hi
    rw [← e] at this
    have h2 : (V % 2 ^ i) * 2 ^ t = 0 := by
      have := congrArg (nm zs ^^^ ·) this
      simp only [← Nat.xor_assoc, Nat.xor_self, Nat.zero_xor] at this
      exact this.symm
    rcases Nat.mul_eq_zero.1 h2 with h | h
    · exact h
    · exact absurd h (Nat.ne_of_gt (Nat.pow_pos (by decide)))
  · intro e
    refine nm_inj _ _ (burst_len zs t V i).symm h (burst_bts h i hi) ?_
    rw [nm_burst h i hi, e]; simp
theorem unlike_iff (zs : List Int) (t V i : Nat) (h : Bts zs) (hi : t + i ≤ 8 * zs.length) (h32 : i ≤ 32) : (sumOf zs).toNat = (sumOf (burst zs t V i)).toNat ↔ zs = burst zs t V i := by
  constructor
  · intro hs
    exact (burst_same zs t V i h hi).2 (sum_unlike zs t V i h hi h32 hs)
  · intro e; rw [← e]
theorem Tryd.info5 : (Tryd.prog.info? 5).map (fun i => (i.zero, i.size, i.bytes)) = some (some (.int .u8 0), 1, 1) := by kernel_rfl
/-- The bytes zs lie in a row that is owned from base on. -/
def Ow (w : World) (base : Nat) (ao : Option Addr) (n cap : Nat) (zs : List Int) : Prop :=
  zs.length = n ∧ n ≤ cap ∧ cap ≤ maxLen ∧ w.ownsRow base 5 1 (.slice ao n cap) n (zs.map (Value.int .u8))
theorem Ow.rd {w : World} {base : Nat} {ao : Option Addr} {n cap : Nat} {zs : List Int} (h : Ow w base ao n cap zs) : Rd w ao zs := by
  obtain ⟨h1, h2, h3, h4⟩ := h
  rcases h4.2 with ⟨q, hn⟩ | ⟨g, c, cur, q, _⟩
  · exact .inl (List.eq_nil_of_length_eq_zero (by omega))
  · simp only [Value.slice.injEq] at q
    obtain ⟨rfl, _, rfl⟩ := q
    exact Rd.of_owns h4
theorem owns_below {w w' : World} {base e n : Nat} {v : Value} {xs : List Value} (h : w.ownsRow base e 1 v n xs) (hB : Below w.heap.size w w') : w'.ownsRow base e 1 v n xs := by
  obtain ⟨h1, h2⟩ := h
  refine ⟨h1, ?_⟩
  rcases h2 with h2 | ⟨g, cap, cur, q1, q2, q3, q4⟩
  · exact .inl h2
  · exact .inr ⟨g, cap, cur, q1, q2, by rw [hB.block g (Array.getElem?_eq_some_iff.1 q3).1, q3], q4⟩
theorem Ow.below {w w' : World} {base : Nat} {ao : Option Addr} {n cap : Nat} {zs : List Int} (h : Ow w base ao n cap zs) (hB : Below w.heap.size w w') : Ow w' base ao n cap zs :=
  ⟨h.1, h.2.1, h.2.2.1, owns_below h.2.2.2 hB⟩
theorem Ow.of {w : World} {base n : Nat} {v : Value} {zs : List Int} (hl : zs.length = n) (h : w.ownsRow base 5 1 v n (zs.map (Value.int .u8))) : ∃ ao cap, v = .slice ao n cap ∧ Ow w base ao n cap zs := by
  rcases h.2 with ⟨q, hn⟩ | ⟨g, c, cur, q, _, _, q1, q2, _⟩
  · subst q; subst hn
    exact ⟨none, 0, rfl, hl, Nat.le_refl _, Nat.zero_le _, h⟩
  · subst q
    exact ⟨_, c, rfl, hl, q1, q2, h⟩
/-- An owned row is nil and empty, or lies at a block's head. -/
theorem Ow.at {w : World} {base : Nat} {ao : Option Addr} {n cap : Nat} {zs : List Int} (h : Ow w base ao n cap zs) (h0 : 0 < n) : ∃ g, ao = some ⟨g, 0, none⟩ ∧ base ≤ g := by
  rcases h.2.2.2.2 with ⟨_, hn⟩ | ⟨g, c, cur, q, hg, _⟩
  · exact absurd hn (by omega)
  · simp only [Value.slice.injEq] at q
    exact ⟨g, q.1, hg⟩
theorem Ow.nil {w : World} {base n cap : Nat} {ao : Option Addr} {zs : List Int} (h : Ow w base ao n cap zs) (hn : ao = none) : cap = 0 := by
  rcases h.2.2.2.2 with ⟨q, _⟩ | ⟨g, c, cur, q, _⟩
  · simp only [Value.slice.injEq] at q; exact q.2.2
  · simp only [Value.slice.injEq] at q; rw [hn] at q; cases q.1
theorem Ow.part {w : World} {base n cap : Nat} {ao : Option Addr} {zs : List Int} (h : Ow w base ao n cap zs) (hz : Bts zs) : Part.ok w ⟨ao, n, cap, zs⟩ :=
  ⟨h.rd, h.1, hz, Nat.le_trans h.2.1 h.2.2.1, h.nil⟩
/-- What Twin leaves. -/
def R1 (w : World) (n : Nat) (zs : List Int) (e : Ending) (w' : World) : Prop :=
  ∃ ko kc, e = .returned (.slice ko n kc) ∧ Ow w' w.heap.size ko n kc zs ∧ Below w.heap.size w w'
theorem twin_nil (w : World) : Calls Tryd.prog 25 #[.slice none 0 0] w fun e w' => e = .returned (.slice none 0 0) ∧ w = w' := by
  go_enter Tryd.func25, Tryd.ntmps25
  go_wp2
  go_ret
  exact ⟨rfl, rfl⟩
theorem twin_some (ad : Addr) (n cap : Nat) (zs : List Int) (w : World) (hl : zs.length = n) (hm : n ≤ 1000000) (h : Rd w (some ad) zs) :
    Calls Tryd.prog 25 #[.slice (some ad) n cap] w (R1 w n zs) := by
  obtain ⟨i0, hi, hz0, hz1, hz2⟩ := info_parts Tryd.info5
  have H := Lib.hid h; have HL := Lib.hid hl
  have HO : Hid (w.ownsRow w.heap.size 5 1 (.slice none 0 0) 0 []) := World.ownsRow_nil _ _ _ _
  clear h hl
  go_enter Tryd.func25, Tryd.ntmps25
  go_wp2_with (at_builtin; refine wpList_append_own _ rfl (.tmp 4) (.tmp 5) 27 rfl w.heap.size 5 i0 (.int .u8 0) 1 1 Tryd.underlying27 hi hz0 hz1 hz2 rfl (by decide) _ 0 _ rfl HO.out ad n cap (zs.map (.int .u8)) rfl ?c0 ?c1 ?c2 ?c3 ?c4 ?c5 ?_)
  case c0 => simp [HL.out]
  case c1 => exact H.out.cells _ rfl
  case c2 => exact ints_oneCell _ _
  case c3 => unfold maxLen; omega
  case c4 => omega
  case c5 => exact Nat.le_refl _
  intro v' w1 hown1 hgrow1 hnil
  have HB1 := Lib.hid (Below.grown (Below.refl _ _) hgrow1 (Nat.le_refl _) (fun k h => by cases h))
  have hv := Ow.of HL.out (by simpa using hown1)
  obtain ⟨ko, kc, hv, how⟩ := hv
  rw [hv]
  have HOW := Lib.hid how
  clear how hown1 hgrow1 hnil hv
  go_wp2
  go_ret
  exact ⟨ko, kc, rfl, HOW.out, HB1.out⟩
theorem twin_any (ao : Option Addr) (n cap : Nat) (zs : List Int) (w : World) (hl : zs.length = n) (hm : n ≤ 1000000) (h : Rd w ao zs) (hn : ao = none → cap = 0) :
    Calls Tryd.prog 25 #[.slice ao n cap] w (R1 w n zs) := by
  cases ao with
  | some ad => exact twin_some ad n cap zs w hl hm h
  | none =>
    obtain rfl := hn rfl
    have hz : zs = [] := by
      rcases h with h | ⟨b, o, h, _⟩
      · exact h
      · cases h
    subst hz
    obtain rfl : n = 0 := hl.symm
    refine (twin_nil w).mono ?_
    rintro e w' ⟨rfl, rfl⟩
    exact ⟨none, 0, rfl, ⟨rfl, Nat.le_refl _, Nat.zero_le _, World.ownsRow_nil _ _ _ _⟩, Below.refl _ _⟩
theorem ne_of_len {xs ys : List Int} (h : xs.length ≠ ys.length) : decide (xs = ys) = false := decide_eq_false (fun e => h (by rw [e]))
/-- THE COMPARISON OF BYTES: it only reads. -/
theorem bytes_cmp (a b : Option Addr) (n m ca cb : Nat) (xs ys : List Int) (w : World) (hx : xs.length = n) (hy : ys.length = m) (hm : n ≤ maxLen) (h1 : Rd w a xs) (h2 : Rd w b ys) :
    Calls Tryd.prog 19 #[.slice a n ca, .slice b m cb] w fun e w' => e = .returned (.bool (decide (xs = ys))) ∧ ∃ q, w' = w.drewN q := by
  unfold maxLen at hm
  by_cases hnm : n = m
  · subst hnm
    obtain ⟨r, hr⟩ : ∃ r, r = decide (xs = ys) := ⟨_, rfl⟩
    rw [← hr]
    have HR := Lib.hid hr; have H1 := Lib.hid h1; have H2 := Lib.hid h2; have HX := Lib.hid hx; have HY := Lib.hid hy
    have d0 : ((n : Int) != n) = false := by simp
    clear hr h1 h2 hx hy
    go_enter Tryd.func19, Tryd.ntmps19
    go_wp2
    go_loopw [5] (fun i wr => ∃ k q : Nat, k ≤ n ∧ i = .int .i64 k ∧ wr = w.drewN q ∧ xs.take k = ys.take k) (fun i _ => n - (intOf i).toNat)
    case atStart => exact ⟨0, 0, Nat.zero_le _, rfl, rfl, rfl⟩
    case round =>
      obtain ⟨k, q, hk, rfl, hw, ht⟩ := hrel
      have HW := Lib.hid hw; have HT := Lib.hid ht
      by_cases hlt : k < n
      · obtain ⟨b1, o1, rfl, c1⟩ := H1.out.at (by rw [HX.out]; omega)
        obtain ⟨b2, o2, rfl, c2⟩ := H2.out.at (by rw [HY.out]; omega)
        have g1 : wr.cell? ⟨b1, o1 + k, none⟩ = some (.int .u8 (xs.getD k 0)) := by rw [hw]; exact c1 k (by rw [HX.out]; exact hlt)
        have g2 : wr.cell? ⟨b2, o2 + k, none⟩ = some (.int .u8 (ys.getD k 0)) := by rw [hw]; exact c2 k (by rw [HY.out]; exact hlt)
        obtain ⟨c, hc⟩ : ∃ c, c = xs.getD k 0 := ⟨_, rfl⟩
        obtain ⟨d, hd⟩ : ∃ d, d = ys.getD k 0 := ⟨_, rfl⟩
        rw [← hc] at g1; rw [← hd] at g2
        have HC := Lib.hid hc; have HD := Lib.hid hd
        clear c1 c2 hc hd hw ht
        have lx : k < xs.length := by rw [HX.out]; exact hlt
        have ly : k < ys.length := by rw [HY.out]; exact hlt
        by_cases hcd : c = d
        · subst hcd
          have d1 : (c != c) = false := by simp
          have HS : Hid (xs.take (k + 1) = ys.take (k + 1)) := by
            show _ = _
            rw [List.take_succ_eq_append_getElem lx, List.take_succ_eq_append_getElem ly, HT.out]
            have e1 := HC.out; have e2 := HD.out
            simp only [List.getD, List.getElem?_eq_getElem lx, List.getElem?_eq_getElem ly, Option.getD_some] at e1 e2
            rw [← e1, ← e2]
          go_wp2
          go_quiet (fail)
          go_wp2
          go_roundw
          case rel => exact ⟨k + 1, q + nq, by omega, by go_num, by rw [HW.out, World.drewN_drewN], HS.out⟩
          case measure => simp [intOf]; omega
        · have d1 : (c != d) = true := by simp [hcd]
          have hne : r = false := by
            rw [HR.out]
            refine decide_eq_false (fun e => hcd ?_)
            rw [HC.out, HD.out, e]
          subst hne
          clear hcd lx ly
          go_wp2
          go_quiet (fail)
          go_wp2
          go_ret
          exact ⟨rfl, q + nq, by rw [HW.out, World.drewN_drewN]⟩
      · obtain rfl : k = n := by omega
        have ht' : r = true := by
          rw [HR.out]
          rw [List.take_of_length_le (by rw [HX.out]; exact Nat.le_refl _), List.take_of_length_le (by rw [HY.out]; exact Nat.le_refl _)] at ht
          exact decide_eq_true ht
        subst ht'
        clear hw ht
        go_wp2
        go_ret
        exact ⟨rfl, q, HW.out⟩
  · have hne : decide (xs = ys) = false := ne_of_len (by omega)
    rw [hne]
    have d0 : ((n : Int) != m) = true := by simp; omega
    clear hne hx hy h1 h2
    go_enter Tryd.func19, Tryd.ntmps19
    go_wp2
    go_ret
    exact ⟨rfl, 0, rfl⟩
theorem own_ge {w : World} {base e n : Nat} {v : Value} {xs : List Value} (h : w.ownsRow base e 1 v n xs) : ∀ k, v.ownBlock = some k → base ≤ k := by
  intro k hk
  rcases h.2 with ⟨h2, _⟩ | ⟨g, cap, cur, q1, q2, q3, q4⟩
  · subst h2; cases hk
  · subst q1; cases hk; exact q2
theorem uwrap_at (a M : Int) (h : 0 < M) (hM : M ≤ 1000000000) : ∃ k : Nat, (k : Int) < M ∧ wrap64 ((IntKind.u64.wrap a).tmod M) = k := by
  have h0 : 0 ≤ IntKind.u64.wrap a := by rw [IntKind.wrap_u64]; omega
  refine ⟨((IntKind.u64.wrap a) % M).toNat, ?_, ?_⟩
  · have := Int.emod_lt_of_pos (IntKind.u64.wrap a) h; have := Int.emod_nonneg (IntKind.u64.wrap a) (by omega : M ≠ 0); omega
  · rw [Int.tmod_eq_emod_of_nonneg h0]
    have h1 := Int.emod_lt_of_pos (IntKind.u64.wrap a) h; have h2 := Int.emod_nonneg (IntKind.u64.wrap a) (by omega : M ≠ 0)
    generalize IntKind.u64.wrap a % M = r at *
    rw [IntWalk.wrap64_in _ ⟨by omega, by omega⟩]; omega
theorem bit_u32 (V k : Nat) (hV : V < 2 ^ 32) : (Go.bits .and .u32 ((V : Int) / 2 ^ k) 1 == 1) = V.testBit k := by
  have e : ((V : Int) / 2 ^ k) = ((V / 2 ^ k : Nat) : Int) := by
    rw [Int.natCast_ediv, Int.natCast_pow]; rfl
  have hlt : V / 2 ^ k < 2 ^ 32 := Nat.lt_of_le_of_lt (Nat.div_le_self _ _) hV
  have h1 : Go.bits .and .u32 ((V / 2 ^ k : Nat) : Int) 1 = ((V / 2 ^ k % 2 : Nat) : Int) := by
    generalize V / 2 ^ k = n at *
    show IntKind.u32.wrap ((BitVec.ofInt 32 (n : Int) &&& BitVec.ofInt 32 1).toNat : Int) = _
    rw [BitVec.ofInt_natCast, BitVec.toNat_and, BitVec.toNat_ofNat, show (BitVec.ofInt 32 1).toNat = 2 ^ 1 - 1 by decide, Nat.and_two_pow_sub_one_eq_mod, IntKind.wrap_u32]
    omega
  rw [e, h1, Nat.testBit_eq_decide_div_mod_eq, Bool.eq_iff_iff]
  simp only [beq_iff_eq, decide_eq_true_eq]
  omega
theorem xor_u8 (c d : Int) (h0 : 0 ≤ c) (h1 : c ≤ 255) (h2 : 0 ≤ d) (h3 : d ≤ 255) : Go.bits .xor .u8 c d = bx c d := by
  show IntKind.u8.wrap ((BitVec.ofInt 8 c ^^^ BitVec.ofInt 8 d).toNat : Int) = _
  have e1 : (BitVec.ofInt 8 c).toNat = c.toNat := by rw [BitVec.toNat_ofInt]; omega
  have e2 : (BitVec.ofInt 8 d).toNat = d.toNat := by rw [BitVec.toNat_ofInt]; omega
  have hb := bx_bd c d h0 h1 h2 h3
  rw [BitVec.toNat_xor, e1, e2]
  show IntKind.u8.wrap (bx c d) = bx c d
  rw [IntKind.wrap_u8]; omega
theorem pow_byte (k : Nat) (h : k < 8) : (2 : Int) ^ k % 256 = ((2 ^ k : Nat) : Int) := by
  match k, h with
  | 0, _ => rfl
  | 1, _ => rfl
  | 2, _ => rfl
  | 3, _ => rfl
  | 4, _ => rfl
  | 5, _ => rfl
  | 6, _ => rfl
  | 7, _ => rfl
theorem burst_pos {zs : List Int} {t V k : Nat} (h : V.testBit k = true) : burst zs t V (k + 1) = (burst zs t V k).set ((t + k) / 8) (bx ((burst zs t V k).getD ((t + k) / 8) 0) ((2 ^ ((t + k) % 8) : Nat) : Int)) := by
  show (if V.testBit k = true then flip1 (burst zs t V k) (t + k) else burst zs t V k) = _
  rw [if_pos h]; rfl
theorem burst_neg {zs : List Int} {t V k : Nat} (h : ¬ V.testBit k = true) : burst zs t V (k + 1) = burst zs t V k := by
  show (if V.testBit k = true then flip1 (burst zs t V k) (t + k) else burst zs t V k) = _
  rw [if_neg h]
theorem ow_store {w : World} {base g n kc : Nat} {zs : List Int} {j : Nat} {x : Int} (h : Ow w base (some ⟨g, 0, none⟩) n kc zs) : Ow (w.setCell ⟨g, j, none⟩ (.int .u8 x)) base (some ⟨g, 0, none⟩) n kc (zs.set j x) :=
  ⟨by simp [h.1], h.2.1, h.2.2.1, by rw [List.map_set]; exact (h.2.2.2.stored j _).1⟩
theorem Tab.congr {V W : World} (h : Tab W) (hc : ∀ a, V.cell? a = W.cell? a) : Tab V := fun k hk => by rw [hc]; exact h k hk
theorem Rd.congr {V W : World} {ao : Option Addr} {zs : List Int} (h : Rd W ao zs) (hc : ∀ a, V.cell? a = W.cell? a) : Rd V ao zs := by
  rcases h with h | ⟨b, o, ha, hr⟩
  · exact .inl h
  · exact .inr ⟨b, o, ha, fun j hj => by rw [hc]; exact hr j hj⟩
theorem Part.ok.congr {V W : World} {p : Part} (h : p.ok W) (hc : ∀ a, V.cell? a = W.cell? a) : p.ok V := ⟨h.rd.congr hc, h.len, h.bts, h.small, h.nil⟩
theorem Ps.congr {V W : World} {ao : Option Addr} {ps : List Part} (h : Ps W ao ps) (hc : ∀ a, V.cell? a = W.cell? a) : Ps V ao ps := by
  rcases h with h | ⟨b, o, ha, hr⟩
  · exact .inl h
  · exact .inr ⟨b, o, ha, fun r hr' => ⟨by rw [hc]; exact (hr r hr').1, (hr r hr').2.congr hc⟩⟩
theorem sum_side (W : World) (ps : List Part) (n g : Nat) (C : Array Value) (s : Int) (hs : s = ((sumOf (flat ps)).toNat : Int)) (hC : C = (ps.map Part.v).toArray) (hn : ps.length = n) (hg : g = W.heap.size) (hm : n ≤ maxLen) (hT : Tab W) (h : ∀ p ∈ ps, p.ok W)
    (V : World) (hV : ∀ a, V.cell? a = (W.alloc (.cells C 27)).cell? a) :
    Calls Tryd.prog 49 #[.slice (some ⟨g, 0, none⟩) n n] V fun e w' => e = .returned (.int .u32 s) ∧ V = w' := by
  subst hC; subst hg; subst hs
  exact sum_any _ n n ps V hn hm ((hT.below ((Below.refl _ _).alloc (Nat.le_refl _) _)).congr hV) ((ps_new W ps 27 (fun r hr => h _ (List.getElem_mem hr))).congr hV)
theorem Part.ok.take {w : World} {a : Option Addr} {n c : Nat} {z : List Int} (h : Part.ok w ⟨a, n, c, z⟩) (k : Nat) (hk : k ≤ n) : Part.ok w ⟨a, k, c, z.take k⟩ :=
  ⟨h.rd.take k, by have := h.len; simp at this ⊢; omega, h.bts.take k, Nat.le_trans hk h.small, h.nil⟩
theorem Part.ok.drop {w : World} {b o n c k : Nat} {z : List Int} (h : Part.ok w ⟨some ⟨b, o, none⟩, n, c, z⟩) (c' : Nat) (hk : k ≤ n) : Part.ok w ⟨some ⟨b, o + k, none⟩, n - k, c', z.drop k⟩ :=
  ⟨h.rd.drop k, by have := h.len; simp at this ⊢; omega, h.bts.drop k, Nat.le_trans (Nat.sub_le _ _) h.small, fun h => by cases h⟩
theorem Part.ok.empty (w : World) (a : Option Addr) (c : Nat) (h : a = none → c = 0) : Part.ok w ⟨a, 0, c, []⟩ := ⟨Rd.nil _ _, rfl, Bts.nil, Nat.zero_le _, h⟩
/-- What is left from k on: at the end of its room a slice keeps its address. -/
theorem Part.ok.rest {w : World} {b n c k : Nat} {z : List Int} (h : Part.ok w ⟨some ⟨b, 0, none⟩, n, c, z⟩) (hk : k ≤ n) (hc : n ≤ c) : Part.ok w ⟨if c = k then some ⟨b, 0, none⟩ else some ⟨b, k, none⟩, n - k, c - k, z.drop k⟩ := by
  by_cases e : c = k
  · rw [if_pos e]
    have hz : z.drop k = [] := List.drop_of_length_le (by have := h.len; simp at this; omega)
    have hn : n - k = 0 := by omega
    rw [hz, hn]
    exact Part.ok.empty _ _ _ (fun h => by cases h)
  · rw [if_neg e]
    have := h.drop (c - k) hk
    rwa [Nat.zero_add] at this
theorem and1_u32 (n : Nat) (h : n < 2 ^ 32) : Go.bits .and .u32 (n : Int) 1 = ((n % 2 : Nat) : Int) := by
  show IntKind.u32.wrap ((BitVec.ofInt 32 (n : Int) &&& BitVec.ofInt 32 1).toNat : Int) = _
  rw [BitVec.ofInt_natCast, BitVec.toNat_and, BitVec.toNat_ofNat, show (BitVec.ofInt 32 1).toNat = 2 ^ 1 - 1 by decide, Nat.and_two_pow_sub_one_eq_mod, IntKind.wrap_u32]
  omega
theorem xor_nat32 (a b : Nat) (ha : a < 2 ^ 32) (hb : b < 2 ^ 32) : Go.bits .xor .u32 (a : Int) (b : Int) = ((a ^^^ b : Nat) : Int) := by
  show IntKind.u32.wrap ((BitVec.ofInt 32 (a : Int) ^^^ BitVec.ofInt 32 (b : Int)).toNat : Int) = _
  have h := Nat.xor_lt_two_pow ha hb
  rw [BitVec.ofInt_natCast, BitVec.ofInt_natCast, BitVec.toNat_xor, BitVec.toNat_ofNat, BitVec.toNat_ofNat, Nat.mod_eq_of_lt ha, Nat.mod_eq_of_lt hb, IntKind.wrap_u32]
  omega
/-- k bits of a byte, taken in one by one. -/
def bitsIn (r c : Nat) : Nat → Nat
  | 0 => r
  | k + 1 => B (bitsIn r c k ^^^ (c / 2 ^ k % 2))
theorem B_half (n b : Nat) (hb : b < 2) : B (n ^^^ b) = if n % 2 = b then n / 2 else n / 2 ^^^ 0xedb88320 := by
  have h : (n ^^^ b) % 2 = (n % 2) ^^^ (b % 2) := Nat.xor_mod_two_pow (n := 1)
  unfold B
  rw [Nat.xor_div_two, h, show b / 2 = 0 by omega, Nat.xor_zero, show b % 2 = b by omega]
  have h2 : n % 2 < 2 := Nat.mod_lt _ (by decide)
  rcases Nat.mod_two_eq_zero_or_one n with h1 | h1 <;> (rw [h1]; match b, hb with | 0, _ => simp | 1, _ => simp)
theorem bitsIn_lt (r c : Nat) (h : r < 2 ^ 32) : ∀ k, bitsIn r c k < 2 ^ 32
  | 0 => h
  | k + 1 => B_lt _ (Nat.xor_lt_two_pow (bitsIn_lt r c h k) (Nat.lt_trans (Nat.mod_lt _ (by decide)) (by decide)))
theorem bitsIn_eq (r c : Nat) : ∀ k, Bn k (r ^^^ (c % 2 ^ k)) = bitsIn r c k
  | 0 => by simp [Bn, bitsIn, Nat.mod_one]
  | k + 1 => by
    have e : c % 2 ^ (k + 1) = (c % 2 ^ k) ^^^ ((c / 2 ^ k % 2) * 2 ^ k) := by
      rw [Nat.xor_comm, ← mul_xor k _ _ (Nat.mod_lt _ (Nat.pow_pos (by decide))), Nat.pow_succ, Nat.mod_mul, Nat.mul_comm, Nat.add_comm]
    rw [e, ← Nat.xor_assoc, Bn_add k 1, Bn_xor, bitsIn_eq r c k, Bn_pow]
    rfl
theorem upd_bits (r : BitVec 32) (c : Nat) (h : c < 256) : ((upd r (c : Int)).toNat) = bitsIn r.toNat c 8 := by
  rw [upd_nat r _ (by omega) (by omega), ← bitsIn_eq, Nat.mod_eq_of_lt (by exact h)]; rfl
theorem shr_bit (c k : Nat) : (c : Int) / 2 ^ k = ((c / 2 ^ k : Nat) : Int) := by
  rw [Int.natCast_ediv, Int.natCast_pow]; rfl
theorem bne_cast {a b : Nat} (h : a ≠ b) : ((a : Int) != (b : Int)) = true := by
  simp only [bne_iff_ne, ne_eq]; omega
set_option maxHeartbeats 400000 in
theorem ref_some (b o len cap : Nat) (zs : List Int) (w : World) (hl : zs.length = len) (hm : len ≤ 1000000) (hr : Rd w (some ⟨b, o, none⟩) zs) (hz : Bts zs) :
    Calls Tryd.prog 53 #[.slice (some ⟨b, o, none⟩) len cap] w fun e w' => e = .returned (.int .u32 ((sumOf zs).toNat : Int)) ∧ w = w' := by
  have HL := Lib.hid hl; have HR := Lib.hid hr; have HZ := Lib.hid hz
  clear hl hr hz
  go_enter Tryd.func53, Tryd.ntmps53
  go_wp2
  go_loop [3, 4] (fun g i => ∃ k : Nat, k ≤ len ∧ i = .int .i64 k ∧ g = .int .u32 ((regs 0xffffffff#32 (zs.take k)).toNat : Int)) (fun _ i => len - (intOf i).toNat)
  case atStart => exact ⟨0, Nat.zero_le _, rfl, rfl⟩
  case round =>
    obtain ⟨k, hk, rfl, rfl⟩ := hrel
    by_cases hlt : k < len
    · obtain ⟨b', o', e, hcc⟩ := HR.out.at (by rw [HL.out]; omega)
      cases e
      have hcell := hcc k (by rw [HL.out]; exact hlt)
      have hbd := HZ.out k (by rw [HL.out]; exact hlt)
      have HN := Lib.hid (regs_take 0xffffffff#32 zs k (by rw [HL.out]; exact hlt))
      generalize zs.getD k 0 = c0 at hcell hbd HN
      obtain ⟨c, rfl⟩ : ∃ c : Nat, c0 = (c : Int) := ⟨c0.toNat, by omega⟩
      have hc : c < 256 := by omega
      obtain ⟨X, hX⟩ : ∃ X, X = regs 0xffffffff#32 (zs.take k) := ⟨_, rfl⟩
      rw [← hX] at HN ⊢
      have HU := Lib.hid (upd_bits X c hc)
      have hx := X.isLt
      clear hcc hX
      go_wp2
      go_loop [3, 5] (fun g i => ∃ j : Nat, j ≤ 8 ∧ i = .int .i64 j ∧ g = .int .u32 ((bitsIn X.toNat c j : Nat) : Int)) (fun _ i => 8 - (intOf i).toNat)
      case atStart => exact ⟨0, Nat.zero_le _, rfl, rfl⟩
      case round =>
        obtain ⟨j, hj, rfl, rfl⟩ := hrel
        have hlt := bitsIn_lt X.toNat c hx j
        obtain ⟨r, hrr⟩ : ∃ r, r = bitsIn X.toNat c j := ⟨_, rfl⟩
        have HS : Hid (bitsIn X.toNat c (j + 1) = if r % 2 = c / 2 ^ j % 2 then r / 2 else r / 2 ^^^ 0xedb88320) := by
          show _ = _
          rw [hrr]; exact B_half _ _ (Nat.mod_lt _ (by decide))
        have HRR := Lib.hid hrr
        rw [← hrr] at hlt ⊢
        clear hrr
        by_cases hj8 : j < 8
        · have e1 : Go.bits .and .u32 (r : Int) 1 = ((r % 2 : Nat) : Int) := and1_u32 r hlt
          have e2 : Go.bits .and .u32 ((c : Int) / 2 ^ j % 4294967296) 1 = ((c / 2 ^ j % 2 : Nat) : Int) := by
            have h1 : c / 2 ^ j ≤ c := Nat.div_le_self _ _
            rw [shr_bit]
            generalize c / 2 ^ j = m at h1 ⊢
            rw [show ((m : Int) % 4294967296) = (m : Int) by omega]
            exact and1_u32 _ (by omega)
          have e3 : Go.bits .xor .u32 ((r : Int) / 2) 3988292384 = ((r / 2 ^^^ 0xedb88320 : Nat) : Int) := by
            have := xor_nat32 (r / 2) 0xedb88320 (by omega) (by decide)
            rw [← this]; congr 1
          by_cases hb : r % 2 = c / 2 ^ j % 2
          · have d : (Go.bits .and .u32 (r : Int) 1 != Go.bits .and .u32 ((c : Int) / 2 ^ j % 4294967296) 1) = false := by
              rw [e1, e2, hb]; simp
            rw [if_pos hb] at HS
            clear e1 e2 e3 hb
            go_wp2
            go_round
            case rel => exact ⟨j + 1, by omega, by go_num, by rw [HS.out]; rfl⟩
            case measure => simp [intOf]; omega
          · have d : (Go.bits .and .u32 (r : Int) 1 != Go.bits .and .u32 ((c : Int) / 2 ^ j % 4294967296) 1) = true := by
              rw [e1, e2]; exact bne_cast hb
            rw [if_neg hb] at HS
            have HE := Lib.hid e3
            clear e1 e2 e3 hb
            go_wp2
            go_round
            case rel => exact ⟨j + 1, by omega, by go_num, by rw [HS.out, HE.out]⟩
            case measure => simp [intOf]; omega
        · obtain rfl : j = 8 := by omega
          clear HS
          go_wp2
          go_round
          case rel => exact ⟨k + 1, by omega, by go_num, by rw [HN.out, HU.out, ← HRR.out]⟩
          case measure => simp [intOf]; omega
    · obtain rfl : k = len := by omega
      rw [List.take_of_length_le (by rw [HL.out]; exact Nat.le_refl _)]
      have e : Go.bits .xor .u32 ((regs 0xffffffff#32 zs).toNat : Int) 4294967295 = ((sumOf zs).toNat : Int) := by
        have := xor_nat32 (regs 0xffffffff#32 zs).toNat 0xffffffff (regs 0xffffffff#32 zs).isLt (by decide)
        rw [show ((4294967295 : Int)) = ((0xffffffff : Nat) : Int) by rfl, this]
        unfold sumOf
        rw [not_nat, Nat.xor_comm]
      have hx := (regs 0xffffffff#32 zs).isLt
      have HE := Lib.hid e
      clear e
      go_wp2
      go_ret
      exact ⟨by rw [← HE.out]; rfl, rfl⟩
theorem ref_zero (ao : Option Addr) (cap : Nat) (w : World) : Calls Tryd.prog 53 #[.slice ao 0 cap] w fun e w' => e = .returned (.int .u32 ((sumOf []).toNat : Int)) ∧ w = w' := by
  go_enter Tryd.func53, Tryd.ntmps53
  go_wp2
  refine wp_loop_rounds 1 ?_
  rw [rounds_succ]
  go_wp2
  go_ret
  exact ⟨rfl, rfl⟩
/-- THE DOCUMENT'S SUM. -/
theorem ref_any (ao : Option Addr) (len cap : Nat) (zs : List Int) (w : World) (hl : zs.length = len) (hm : len ≤ 1000000) (hr : Rd w ao zs) (hz : Bts zs) :
    Calls Tryd.prog 53 #[.slice ao len cap] w fun e w' => e = .returned (.int .u32 ((sumOf zs).toNat : Int)) ∧ w = w' := by
  rcases hr with rfl | ⟨b, o, rfl, hc⟩
  · obtain rfl : len = 0 := hl.symm
    exact ref_zero ao cap w
  · exact ref_some b o len cap zs w hl hm (.inr ⟨b, o, rfl, hc⟩) hz
theorem refsum_any (ao : Option Addr) (len cap : Nat) (zs : List Int) (w : World) (s : Int) (hs : s = ((sumOf zs).toNat : Int)) (hl : zs.length = len) (hm : len ≤ 1000000) (hr : Rd w ao zs) (hz : Bts zs) :
    Calls Tryd.prog 43 #[.slice ao len cap] w fun e w' => ∃ g, e = .returned (.slice (some ⟨g, 0, none⟩) 4 4) ∧ Rd w' (some ⟨g, 0, none⟩) (l4 s) ∧ Below w.heap.size w w' := by
  have HR := Lib.hid (ref_any ao len cap zs w hl hm hr hz)
  rw [← hs] at HR
  have hlt : 0 ≤ s ∧ s < 4294967296 := by rw [hs]; have := (sumOf zs).isLt; omega
  obtain ⟨h0, h1⟩ := hlt
  have hN : Hid (Rd (w.alloc (.cells #[.int .u8 (s % 256), .int .u8 (s / 256 % 256), .int .u8 (s / 65536 % 256), .int .u8 (s / 16777216)] 5)) (some ⟨w.heap.size, 0, none⟩) (l4 s)) := by
    have := (part_new w (l4 s) 5 (0, 0) (by rw [hs]; exact bts_l4 _ (sumOf zs).isLt) (by simp [l4, maxLen])).rd
    exact this
  clear hs hl hm hr hz
  go_enter Tryd.func43, Tryd.ntmps43
  go_wp2_with (go_at_call 53; refine HR.out.mono ?_; rintro e w1 ⟨rfl, rfl⟩)
  go_ret
  exact ⟨_, rfl, hN.out, (Below.refl _ _).alloc (Nat.le_refl _) _⟩
/-- A part that lies in a row of bytes of its own. -/
def Own1 (w : World) (q : Part) : Prop := q.ok w ∧ (q.a = none ∨ ∃ g cur, q.a = some ⟨g, 0, none⟩ ∧ w.heap[g]? = some (.cells cur 5 (0, 0)))
theorem Own1.of_ow {w : World} {base n cap : Nat} {ao : Option Addr} {zs : List Int} (h : Ow w base ao n cap zs) (hz : Bts zs) : Own1 w ⟨ao, n, cap, zs⟩ := by
  refine ⟨h.part hz, ?_⟩
  rcases h.2.2.2.2 with ⟨q, _⟩ | ⟨g, c, cur, q, _, hg, _⟩
  · simp only [Value.slice.injEq] at q; exact .inl q.1
  · simp only [Value.slice.injEq] at q; exact .inr ⟨g, cur, q.1, hg⟩
theorem Own1.below {w w' : World} {q : Part} (h : Own1 w q) (hB : Below w.heap.size w w') : Own1 w' q := by
  refine ⟨h.1.below hB, ?_⟩
  rcases h.2 with h2 | ⟨g, cur, h2, h3⟩
  · exact .inl h2
  · exact .inr ⟨g, cur, h2, by rw [hB.block g (Array.getElem?_eq_some_iff.1 h3).1, h3]⟩
theorem Own1.grown {w w' : World} {q : Part} {base n e : Nat} {v : Value} {xs : List Value} (he : e ≠ 5) (h : Own1 w q) (ho : w.ownsRow base e 1 v n xs) (hg : w.grownBy w' v.ownBlock) : Own1 w' q := by
  rcases h.2 with h2 | ⟨g, cur, h2, h3⟩
  · have hz : q.z = [] := by
      rcases h.1.rd with h4 | ⟨b, o, h4, _⟩
      · exact h4
      · rw [h2] at h4; cases h4
    exact ⟨⟨.inl hz, h.1.len, h.1.bts, h.1.small, h.1.nil⟩, .inl h2⟩
  · have hlt := (Array.getElem?_eq_some_iff.1 h3).1
    have hne : some g ≠ v.ownBlock := by
      intro e'
      rcases ho.2 with ⟨q', _⟩ | ⟨g', cap, cur', q1, q2, q3, q4⟩
      · subst q'; cases e'
      · subst q1
        cases e'
        rw [q3] at h3
        simp only [Option.some.injEq, Obj.cells.injEq] at h3
        exact he h3.2.1
    have hb := hg.block g hlt hne
    refine ⟨⟨?_, h.1.len, h.1.bts, h.1.small, h.1.nil⟩, .inr ⟨g, cur, h2, by rw [hb, h3]⟩⟩
    rcases h.1.rd with h4 | ⟨b, o, ha, hc⟩
    · exact .inl h4
    · rw [h2] at ha
      cases ha
      exact .inr ⟨g, 0, h2, fun j hj => by rw [← hc j hj]; exact World.cell?_of_block hb⟩

end Go.Proofs.YtmbkgjiofkggcaaDoor
