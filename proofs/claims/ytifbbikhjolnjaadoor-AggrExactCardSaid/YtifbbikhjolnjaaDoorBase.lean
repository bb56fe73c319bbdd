/-
  Bytes, sums and twins: contracts and plain facts.
-/
import Derived.Test.YtifbbikhjolnjaaDoorProg
import Derived.WalkKit
import Derived.WalkSpells
import Derived.WalkSmall
import Derived.Outline
import Derived.Lib.Hide
import Derived.Deep.QuietTactic
import Derived.BigQuiet
import Derived.Laws.CopyOwn
import Derived.Laws.Rows
import Derived.Laws.AppendOwnNone
namespace Go.Proofs.YtifbbikhjolnjaaDoor
open Go.RowKit
set_option linter.unusedVariables false

theorem cell_lt {w : World} {a : Addr} {v : Value} (h : w.cell? a = some v) : a.block < w.heap.size := by
  by_cases hb : a.block < w.heap.size
  · exact hb
  · simp [World.cell?, Array.getElem?_eq_none (Nat.le_of_not_lt hb)] at h
theorem cell_of_block {w : World} {g t j : Nat} {l : List Value} (h : w.heap[g]? = some (.cells l.toArray t (0, 0))) (hj : j < l.length) : w.cell? ⟨g, j, none⟩ = some (l.getD j undef) := by
  simp [World.cell?, h, List.getD, hj]
/-- THE BYTES zs LIE AT ao. -/
def Rd (w : World) (ao : Option Addr) (zs : List Int) : Prop :=
  zs = [] ∨ ∃ b o, ao = some ⟨b, o, none⟩ ∧ ∀ j, j < zs.length → w.cell? ⟨b, o + j, none⟩ = some (.int .u8 (zs.getD j 0))
/-- Each is a byte. -/
def Bts (zs : List Int) : Prop := ∀ j, j < zs.length → 0 ≤ zs.getD j 0 ∧ zs.getD j 0 ≤ 255
theorem Rd.nil (w : World) (ao : Option Addr) : Rd w ao [] := .inl rfl
theorem Rd.below {w w' : World} {ao : Option Addr} {zs : List Int} (h : Rd w ao zs) (hB : Below w.heap.size w w') : Rd w' ao zs := by
  rcases h with h | ⟨b, o, ha, hc⟩
  · exact .inl h
  · exact .inr ⟨b, o, ha, fun j hj => by have := hc j hj; rw [hB.cell (cell_lt this), this]⟩
theorem Rd.block {w : World} {g t : Nat} {zs : List Int} (h : w.heap[g]? = some (.cells (zs.map (Value.int .u8)).toArray t (0, 0))) : Rd w (some ⟨g, 0, none⟩) zs := by
  refine .inr ⟨g, 0, rfl, fun j hj => ?_⟩
  rw [Nat.zero_add, cell_of_block h (by simpa using hj)]
  simp [List.getD, hj]
theorem Rd.at {w : World} {ao : Option Addr} {zs : List Int} (h : Rd w ao zs) (h0 : 0 < zs.length) : ∃ b o, ao = some ⟨b, o, none⟩ ∧ ∀ j, j < zs.length → w.cell? ⟨b, o + j, none⟩ = some (.int .u8 (zs.getD j 0)) := by
  rcases h with h | h
  · subst h; simp at h0
  · exact h
theorem Bts.nil : Bts [] := fun j hj => by simp at hj
theorem Bts.take {a : List Int} (ha : Bts a) (k : Nat) : Bts (a.take k) := fun j hj => by
  simp at hj
  have := ha j (by omega)
  simpa [List.getD, List.getElem?_take, show j < k by omega] using this
theorem Bts.drop {a : List Int} (ha : Bts a) (k : Nat) : Bts (a.drop k) := fun j hj => by
  simp at hj
  have := ha (k + j) (by omega)
  simpa [List.getD] using this
/-- The cells of bytes, as the laws on append ask for them. -/
theorem Rd.cells {w : World} {ao : Option Addr} {zs : List Int} (h : Rd w ao zs) : ∀ ad, ao = some ad → ∀ j u, (zs.map (Value.int .u8))[j]? = some u → w.cell? (ad.add j) = some u := by
  intro ad had j u hu
  obtain ⟨hj, hu⟩ := List.getElem?_eq_some_iff.1 hu
  simp at hj
  obtain ⟨b, o, ha, hc⟩ := h.at (by omega)
  rw [had] at ha
  obtain rfl := Option.some.inj ha
  rw [Addr.add_lit, hc j hj, ← hu]
  simp [List.getD, hj]
theorem Rd.take {w : World} {ao : Option Addr} {zs : List Int} (h : Rd w ao zs) (k : Nat) : Rd w ao (zs.take k) := by
  rcases h with h | ⟨b, o, ha, hc⟩
  · exact .inl (by simp [h])
  · refine .inr ⟨b, o, ha, fun j hj => ?_⟩
    simp at hj
    rw [hc j (by omega)]
    simp [List.getD, show j < k by omega]
theorem Rd.drop {w : World} {b o : Nat} {zs : List Int} (h : Rd w (some ⟨b, o, none⟩) zs) (k : Nat) : Rd w (some ⟨b, o + k, none⟩) (zs.drop k) := by
  rcases h with h | ⟨b', o', ha, hc⟩
  · exact .inl (by simp [h])
  · cases ha
    refine .inr ⟨b, o + k, rfl, fun j hj => ?_⟩
    simp at hj
    rw [Nat.add_assoc, hc (k + j) (by omega)]
    simp [List.getD]
theorem Rd.of_owns {w : World} {base e g n cap : Nat} {zs : List Int} (h : w.ownsRow base e 1 (.slice (some ⟨g, 0, none⟩) n cap) n (zs.map (Value.int .u8))) : Rd w (some ⟨g, 0, none⟩) zs := by
  refine .inr ⟨g, 0, rfl, fun j hj => ?_⟩
  have hl := h.1
  rw [List.length_map] at hl
  rw [Nat.zero_add, h.cellAt j (by omega)]
  simp [List.getD, hj]
/-- A part: where its bytes lie, how many, of how much room, which. -/
structure Part where
  a : Option Addr
  l : Nat
  c : Nat
  z : List Int
/-- It is there. -/
structure Part.ok (w : World) (p : Part) : Prop where
  rd : Rd w p.a p.z
  len : p.z.length = p.l
  bts : Bts p.z
  small : p.l ≤ maxLen
  nil : p.a = none → p.c = 0
theorem Part.ok.below {w w' : World} {p : Part} (h : p.ok w) (hB : Below w.heap.size w w') : p.ok w' := ⟨h.rd.below hB, h.len, h.bts, h.small, h.nil⟩
/-- THE PARTS ps LIE AT ao. -/
def Ps (w : World) (ao : Option Addr) (ps : List Part) : Prop :=
  ps = [] ∨ ∃ b o, ao = some ⟨b, o, none⟩ ∧ ∀ r, (h : r < ps.length) → w.cell? ⟨b, o + r, none⟩ = some (.slice ps[r].a ps[r].l ps[r].c) ∧ ps[r].ok w
theorem Ps.nil (w : World) (ao : Option Addr) : Ps w ao [] := .inl rfl
theorem Ps.below {w w' : World} {ao : Option Addr} {ps : List Part} (h : Ps w ao ps) (hB : Below w.heap.size w w') : Ps w' ao ps := by
  rcases h with h | ⟨b, o, ha, hc⟩
  · exact .inl h
  · exact .inr ⟨b, o, ha, fun r hr => ⟨by rw [hB.cell (cell_lt (hc r hr).1)]; exact (hc r hr).1, (hc r hr).2.below hB⟩⟩
/-- All bytes, one behind the other. -/
def flat (ps : List Part) : List Int := ps.flatMap (·.z)
/-- The table. -/
def tab : List (BitVec 32) := [0x00000000#32, 0x1db71064#32, 0x3b6e20c8#32, 0x26d930ac#32, 0x76dc4190#32, 0x6b6b51f4#32, 0x4db26158#32, 0x5005713c#32,
  0xedb88320#32, 0xf00f9344#32, 0xd6d6a3e8#32, 0xcb61b38c#32, 0x9b64c2b0#32, 0x86d3d2d4#32, 0xa00ae278#32, 0xbdbdf21c#32]
def tb (k : Nat) : BitVec 32 := tab.getD k 0#32
/-- Four steps of the register. -/
def half (r : BitVec 32) : BitVec 32 := (r >>> 4) ^^^ tb (r.toNat % 16)
/-- A byte. -/
def upd (r : BitVec 32) (c : Int) : BitVec 32 := half (half (r ^^^ BitVec.ofInt 32 c))
def regs (r : BitVec 32) (zs : List Int) : BitVec 32 := zs.foldl upd r
/-- The sum of bytes. -/
def sumOf (zs : List Int) : BitVec 32 := ~~~ regs 0xffffffff#32 zs
theorem regs_append (r : BitVec 32) (a b : List Int) : regs r (a ++ b) = regs (regs r a) b := by simp [regs]
theorem regs_take (r : BitVec 32) (zs : List Int) (k : Nat) (hk : k < zs.length) : regs r (zs.take (k + 1)) = upd (regs r (zs.take k)) (zs.getD k 0) := by
  rw [List.take_succ_eq_append_getElem hk, regs_append]
  simp [regs, List.getD, hk]
theorem flat_take (ps : List Part) (k : Nat) (hk : k < ps.length) : flat (ps.take (k + 1)) = flat (ps.take k) ++ ps[k].z := by
  rw [List.take_succ_eq_append_getElem hk]; simp only [flat, List.flatMap_append, List.flatMap_cons, List.flatMap_nil, List.append_nil]
theorem xor_u32 (a b : BitVec 32) : Go.bits .xor .u32 (a.toNat : Int) (b.toNat : Int) = ((a ^^^ b).toNat : Int) := by
  have h1 : BitVec.ofInt 32 (a.toNat : Int) = a := by rw [BitVec.ofInt_natCast]; simp
  have h2 : BitVec.ofInt 32 (b.toNat : Int) = b := by rw [BitVec.ofInt_natCast]; simp
  show IntKind.u32.wrap ((BitVec.ofInt 32 (a.toNat : Int) ^^^ BitVec.ofInt 32 (b.toNat : Int)).toNat : Int) = _
  rw [h1, h2, IntKind.wrap_u32]
  have := (a ^^^ b).isLt
  omega
theorem xor_byte (a : BitVec 32) (c : Int) (h0 : 0 ≤ c) (h1 : c ≤ 255) : Go.bits .xor .u32 (a.toNat : Int) c = ((a ^^^ BitVec.ofInt 32 c).toNat : Int) := by
  have e : c = (((BitVec.ofInt 32 c).toNat : Nat) : Int) := by
    rw [BitVec.toNat_ofInt]; omega
  conv => lhs; rw [e]
  exact xor_u32 _ _
theorem shr_u32 (a : BitVec 32) : ((a.toNat : Nat) : Int) / (16 : Int) = (((a >>> 4).toNat : Nat) : Int) := by
  rw [BitVec.toNat_ushiftRight, Nat.shiftRight_eq_div_pow]; omega
theorem and_u32 (a : BitVec 32) : Go.bits .and .u32 (a.toNat : Int) 15 = ((a.toNat % 16 : Nat) : Int) := by
  have h1 : BitVec.ofInt 32 (a.toNat : Int) = a := by rw [BitVec.ofInt_natCast]; simp
  show IntKind.u32.wrap ((BitVec.ofInt 32 (a.toNat : Int) &&& BitVec.ofInt 32 15).toNat : Int) = _
  rw [h1, BitVec.toNat_and, show (BitVec.ofInt 32 15).toNat = 2 ^ 4 - 1 by decide, Nat.and_two_pow_sub_one_eq_mod, IntKind.wrap_u32]
  omega
theorem half_int (a : BitVec 32) : Go.bits .xor .u32 ((a >>> 4).toNat : Int) ((tb (a.toNat % 16)).toNat : Int) = ((half a).toNat : Int) := xor_u32 _ _
theorem not_u32 (a : BitVec 32) : Go.bits .xor .u32 IntKind.u32.max (a.toNat : Int) = ((~~~ a).toNat : Int) := by
  have e : IntKind.u32.max = (((0xffffffff#32 : BitVec 32).toNat : Nat) : Int) := by decide
  rw [e, xor_u32]
  congr 2
/-- The table in memory. -/
def Tab (w : World) : Prop := ∀ k, k < 16 → w.cell? ⟨0, k, none⟩ = some (.int .u32 ((tb k).toNat : Int))
theorem Tab.below {w w' : World} (h : Tab w) (hB : Below w.heap.size w w') : Tab w' := fun k hk => by rw [hB.cell (cell_lt (h k hk))]; exact h k hk
/-- A byte's round, number by number. -/
theorem upd_ints {w : World} (hT : Tab w) (X : BitVec 32) (c : Int) (h0 : 0 ≤ c) (h1 : c ≤ 255) : ∃ (a s t b s' t' : Int) (i i' : Nat),
    Go.bits .xor .u32 (X.toNat : Int) c = a ∧ a / 16 = s ∧ Go.bits .and .u32 a 15 = (i : Int) ∧ i < 16 ∧ w.cell? ⟨0, i, none⟩ = some (.int .u32 t) ∧ Go.bits .xor .u32 s t = b ∧
    b / 16 = s' ∧ Go.bits .and .u32 b 15 = (i' : Int) ∧ i' < 16 ∧ w.cell? ⟨0, i', none⟩ = some (.int .u32 t') ∧ Go.bits .xor .u32 s' t' = ((upd X c).toNat : Int) :=
  ⟨_, _, _, _, _, _, _, _, xor_byte X c h0 h1, shr_u32 _, and_u32 _, Nat.mod_lt _ (by decide), hT _ (Nat.mod_lt _ (by decide)), half_int _, shr_u32 _, and_u32 _, Nat.mod_lt _ (by decide), hT _ (Nat.mod_lt _ (by decide)), half_int _⟩
theorem sum_some (b o n cap : Nat) (ps : List Part) (w : World) (hl : ps.length = n) (hm : n ≤ maxLen) (hT : Tab w) (hc : ∀ r, (h : r < ps.length) → w.cell? ⟨b, o + r, none⟩ = some (.slice ps[r].a ps[r].l ps[r].c) ∧ ps[r].ok w) :
    Calls Tryd.prog 36 #[.slice (some ⟨b, o, none⟩) n cap] w fun e w' => e = .returned (.int .u32 ((sumOf (flat ps)).toNat : Int)) ∧ w = w' := by
  unfold maxLen at hm
  have HL := Lib.hid hl; have HT := Lib.hid hT; have HC := Lib.hid hc
  clear hl hT hc
  go_enter Tryd.func36, Tryd.ntmps36
  go_wp2
  go_loop [3, 10] (fun g i => ∃ k : Nat, k ≤ n ∧ i = .int .i64 k ∧ g = .int .u32 ((regs 0xffffffff#32 (flat (ps.take k))).toNat : Int)) (fun _ i => n - (intOf i).toNat)
  case atStart => exact ⟨0, Nat.zero_le _, rfl, rfl⟩
  case round =>
    obtain ⟨k, hk, rfl, rfl⟩ := hrel
    by_cases hlt : k < n
    · obtain ⟨hcell, hok⟩ := HC.out k (by rw [HL.out]; exact hlt)
      have HF := Lib.hid (flat_take ps k (by rw [HL.out]; exact hlt))
      generalize ps[k]'(by rw [HL.out]; exact hlt) = p at hcell hok HF
      obtain ⟨pa, pl, pc, pz⟩ := p
      have HOK := Lib.hid hok
      have hpm : pl ≤ 2 ^ 63 - 1 := by have := hok.small; unfold maxLen at this; exact this
      clear hok
      obtain ⟨R, hR⟩ : ∃ R, R = regs 0xffffffff#32 (flat (ps.take k)) := ⟨_, rfl⟩
      rw [← hR]
      have HR := Lib.hid hR
      clear hR
      go_wp2
      go_loop [3, 16] (fun g i => ∃ j : Nat, j ≤ pl ∧ i = .int .i64 j ∧ g = .int .u32 ((regs R (pz.take j)).toNat : Int)) (fun _ i => pl - (intOf i).toNat)
      case atStart => exact ⟨0, Nat.zero_le _, rfl, rfl⟩
      case round =>
        obtain ⟨j, hj, rfl, rfl⟩ := hrel
        by_cases hlj : j < pl
        · have hpl : pz.length = pl := HOK.out.len
          obtain ⟨pb, po, hpa, hcc⟩ := HOK.out.rd.at (by show 0 < pz.length; omega)
          simp only at hpa
          subst hpa
          replace hcc := hcc j (by show j < pz.length; omega)
          have hbd := HOK.out.bts j (by show j < pz.length; omega)
          have HN := Lib.hid (regs_take R pz j (by omega))
          simp only at hcc hbd
          obtain ⟨c, hc⟩ : ∃ c, c = pz.getD j 0 := ⟨_, rfl⟩
          obtain ⟨X, hX⟩ : ∃ X, X = regs R (pz.take j) := ⟨_, rfl⟩
          rw [← hX] at HN ⊢
          rw [← hc] at hcc hbd HN
          obtain ⟨hb0, hb1⟩ := hbd
          have em : c % 4294967296 = c := by omega
          obtain ⟨a, s, t, d, s', t', i1, i2, e1, e2, e3, e4, e5, e6, f2, f3, f4, f5, f6⟩ := upd_ints HT.out X c hb0 hb1
          obtain ⟨Y, hY⟩ : ∃ Y, Y = upd X c := ⟨_, rfl⟩
          rw [← hY] at f6 HN
          clear hX hc hY HOK HT HC HL
          go_wp2
          go_round
          case rel => exact ⟨j + 1, by omega, by go_num, by rw [HN.out]⟩
          case measure => simp [intOf]; omega
        · obtain rfl : j = pl := by omega
          have hpl : pz.length = j := HOK.out.len
          rw [List.take_of_length_le (by omega)]
          have HN : Hid (regs 0xffffffff#32 (flat (ps.take (k + 1))) = regs R pz) := by show _ = _; rw [HF.out, regs_append, ← HR.out]
          clear HOK HT HC HL hpl
          go_wp2
          go_round
          case rel => exact ⟨k + 1, by omega, by go_num, by rw [HN.out]⟩
          case measure => simp [intOf]; omega
    · obtain rfl : k = n := by omega
      have hk' := HL.out
      rw [List.take_of_length_le (by omega)]
      have e := not_u32 (regs 0xffffffff#32 (flat ps))
      have e2 : ~~~ regs 0xffffffff#32 (flat ps) = sumOf (flat ps) := rfl
      rw [e2] at e
      obtain ⟨S, hS⟩ : ∃ S, S = sumOf (flat ps) := ⟨_, rfl⟩
      rw [← hS] at e
      have HS := Lib.hid hS
      generalize regs 0xffffffff#32 (flat ps) = R at e ⊢
      clear HL HT HC e2 hk' hS
      go_wp2
      go_ret
      exact ⟨by rw [← HS.out]; rfl, rfl⟩
theorem sum_zero (ao : Option Addr) (cap : Nat) (w : World) :
    Calls Tryd.prog 36 #[.slice ao 0 cap] w fun e w' => e = .returned (.int .u32 ((sumOf []).toNat : Int)) ∧ w = w' := by
  go_enter Tryd.func36, Tryd.ntmps36
  go_wp2
  refine wp_loop_rounds 1 ?_
  rw [rounds_succ]
  go_wp2
  go_ret
  exact ⟨rfl, rfl⟩
/-- THE SUM OF ANY PARTS. -/
theorem sum_any (ao : Option Addr) (n cap : Nat) (ps : List Part) (w : World) (hl : ps.length = n) (hm : n ≤ maxLen) (hT : Tab w) (h : Ps w ao ps) :
    Calls Tryd.prog 36 #[.slice ao n cap] w fun e w' => e = .returned (.int .u32 ((sumOf (flat ps)).toNat : Int)) ∧ w = w' := by
  rcases h with rfl | ⟨b, o, rfl, hc⟩
  · obtain rfl : n = 0 := hl.symm
    exact sum_zero ao cap w
  · exact sum_some b o n cap ps w hl hm hT hc
/-- A row of bytes, just made. -/
theorem part_new (w : World) (zs : List Int) (t : Nat) (fr : Nat × Nat) (hz : Bts zs) (hm : zs.length ≤ maxLen) : Part.ok (w.alloc (.cells (zs.map (Value.int .u8)).toArray t fr)) ⟨some ⟨w.heap.size, 0, none⟩, zs.length, zs.length, zs⟩ :=
  ⟨.inr ⟨w.heap.size, 0, rfl, fun j hj => by rw [Nat.zero_add, World.cell?_alloc_mark]; simp only at hj; simp [List.getD, hj]⟩, rfl, hz, hm, fun h => by cases h⟩
def Part.v (p : Part) : Value := .slice p.a p.l p.c
/-- A row of parts, just made. -/
theorem ps_new (w : World) (ps : List Part) (t : Nat) (h : ∀ r, (h : r < ps.length) → ps[r].ok w) : Ps (w.alloc (.cells (ps.map Part.v).toArray t)) (some ⟨w.heap.size, 0, none⟩) ps :=
  .inr ⟨w.heap.size, 0, rfl, fun r hr => ⟨by rw [Nat.zero_add, World.cell?_alloc_mark]; simp [hr, Part.v], (h r hr).below ((Below.refl _ _).alloc (Nat.le_refl _) _)⟩⟩
theorem info29 : (Tryd.prog.info? 60).map (·.size) = some 4 := by kernel_rfl
theorem bytes_any (ao : Option Addr) (n cap : Nat) (ps : List Part) (w : World) (s : Int) (hs : s = ((sumOf (flat ps)).toNat : Int)) (hl : ps.length = n) (hm : n ≤ maxLen) (hT : Tab w) (h : Ps w ao ps) :
    Calls Tryd.prog 29 #[.slice ao n cap] w fun e w' => e = .returned (.agg #[.int .u8 (s % 256), .int .u8 (s / 256 % 256), .int .u8 (s / 65536 % 256), .int .u8 (s / 16777216)]) ∧ Below w.heap.size w w' := by
  have HS := Lib.hid (fun w1 (hB : Below w.heap.size w w1) => sum_any ao n cap ps w1 hl hm (hT.below hB) (h.below hB))
  have hlt : 0 ≤ s ∧ s < 4294967296 := by rw [hs]; have := (sumOf (flat ps)).isLt; omega
  rw [← hs] at HS
  obtain ⟨h0, h1⟩ := hlt
  clear hl hm hT h hs
  go_enter Tryd.func29, Tryd.ntmps29
  go_wp2_with (go_at_call 36; refine (HS.out _ ?_).mono ?_; exact (Below.refl _ _).alloc (Nat.le_refl _) _; rintro e w1 ⟨rfl, rfl⟩)
  refine bodyPost_ret (results_cell_row rfl _ _ w.heap.size 60 _ (0, 0) _ rfl (heap_alloc_new _ _) Tryd.underlying60 rfl info29) rfl ?_
  exact ⟨rfl, (Below.refl _ _).alloc (Nat.le_refl _) _⟩
/-- A bit's step of an unbounded register. -/
def B (n : Nat) : Nat := n / 2 ^^^ (if n % 2 = 1 then 0xedb88320 else 0)
def Bn : Nat → Nat → Nat
  | 0, n => n
  | k + 1, n => Bn k (B n)
/-- A text as a number, the first byte the lowest. -/
def nm : List Int → Nat
  | [] => 0
  | c :: l => c.toNat + 256 * nm l
theorem bts_cons {c : Int} {l : List Int} (h : Bts (c :: l)) : 0 ≤ c ∧ c ≤ 255 ∧ Bts l := by
  have h0 := h 0 (by simp)
  simp [List.getD] at h0
  refine ⟨h0.1, h0.2, fun j hj => ?_⟩
  have := h (j + 1) (by simp; omega)
  simpa [List.getD] using this
/-- The sum as a number. -/
def S (l : List Int) : Nat := 0xffffffff ^^^ Bn (8 * l.length) (0xffffffff ^^^ nm l)
def bx (c d : Int) : Int := ((c.toNat ^^^ d.toNat : Nat) : Int)
def lx (a b : List Int) : List Int := List.zipWith bx a b
/-- A number's bytes, the lowest first. -/
def l4 (s : Int) : List Int := [s % 256, s / 256 % 256, s / 65536 % 256, s / 16777216]
theorem bts_l4 (s : Nat) (h : s < 2 ^ 32) : Bts (l4 s) := by
  intro j hj
  match j, hj with
  | 0, _ => simp only [l4, List.getD]; simp; omega
  | 1, _ => simp only [l4, List.getD]; simp; omega
  | 2, _ => simp only [l4, List.getD]; simp; omega
  | 3, _ => simp only [l4, List.getD]; simp; omega
theorem Tryd.info5 : (Tryd.prog.info? 5).map (fun i => (i.zero, i.size, i.bytes)) = some (some (.int .u8 0), 1, 1) := by kernel_rfl
/-- The bytes zs lie in a row that is owned from base on. -/
def Ow (w : World) (base : Nat) (ao : Option Addr) (n cap : Nat) (zs : List Int) : Prop :=
  zs.length = n ∧ n ≤ cap ∧ cap ≤ maxLen ∧ w.ownsRow base 5 1 (.slice ao n cap) n (zs.map (Value.int .u8))
theorem Ow.rd {w : World} {base : Nat} {ao : Option Addr} {n cap : Nat} {zs : List Int} (h : Ow w base ao n cap zs) : Rd w ao zs := by
  obtain ⟨h1, h2, h3, h4⟩ := h
  rcases h4.2 with ⟨q, hn⟩ | ⟨g, c, cur, q, _⟩
  · exact .inl (List.eq_nil_of_length_eq_zero (by omega))
  · simp only [Value.slice.injEq] at q
    obtain ⟨rfl, _, rfl⟩ := q
    exact Rd.of_owns h4
theorem owns_below {w w' : World} {base e n : Nat} {v : Value} {xs : List Value} (h : w.ownsRow base e 1 v n xs) (hB : Below w.heap.size w w') : w'.ownsRow base e 1 v n xs := by
  obtain ⟨h1, h2⟩ := h
  refine ⟨h1, ?_⟩
  rcases h2 with h2 | ⟨g, cap, cur, q1, q2, q3, q4⟩
  · exact .inl h2
  · exact .inr ⟨g, cap, cur, q1, q2, by rw [hB.block g (Array.getElem?_eq_some_iff.1 q3).1, q3], q4⟩
theorem Ow.below {w w' : World} {base : Nat} {ao : Option Addr} {n cap : Nat} {zs : List Int} (h : Ow w base ao n cap zs) (hB : Below w.heap.size w w') : Ow w' base ao n cap zs :=
  ⟨h.1, h.2.1, h.2.2.1, owns_below h.2.2.2 hB⟩
theorem Ow.of {w : World} {base n : Nat} {v : Value} {zs : List Int} (hl : zs.length = n) (h : w.ownsRow base 5 1 v n (zs.map (Value.int .u8))) : ∃ ao cap, v = .slice ao n cap ∧ Ow w base ao n cap zs := by
  rcases h.2 with ⟨q, hn⟩ | ⟨g, c, cur, q, _, _, q1, q2, _⟩
  · subst q; subst hn
    exact ⟨none, 0, rfl, hl, Nat.le_refl _, Nat.zero_le _, h⟩
  · subst q
    exact ⟨_, c, rfl, hl, q1, q2, h⟩
/-- An owned row is nil and empty, or lies at a block's head. -/
theorem Ow.at {w : World} {base : Nat} {ao : Option Addr} {n cap : Nat} {zs : List Int} (h : Ow w base ao n cap zs) (h0 : 0 < n) : ∃ g, ao = some ⟨g, 0, none⟩ ∧ base ≤ g := by
  rcases h.2.2.2.2 with ⟨_, hn⟩ | ⟨g, c, cur, q, hg, _⟩
  · exact absurd hn (by omega)
  · simp only [Value.slice.injEq] at q
    exact ⟨g, q.1, hg⟩
theorem Ow.nil {w : World} {base n cap : Nat} {ao : Option Addr} {zs : List Int} (h : Ow w base ao n cap zs) (hn : ao = none) : cap = 0 := by
  rcases h.2.2.2.2 with ⟨q, _⟩ | ⟨g, c, cur, q, _⟩
  · simp only [Value.slice.injEq] at q; exact q.2.2
  · simp only [Value.slice.injEq] at q; rw [hn] at q; cases q.1
theorem Ow.part {w : World} {base n cap : Nat} {ao : Option Addr} {zs : List Int} (h : Ow w base ao n cap zs) (hz : Bts zs) : Part.ok w ⟨ao, n, cap, zs⟩ :=
  ⟨h.rd, h.1, hz, Nat.le_trans h.2.1 h.2.2.1, h.nil⟩
/-- What Twin leaves. -/
def R1 (w : World) (n : Nat) (zs : List Int) (e : Ending) (w' : World) : Prop :=
  ∃ ko kc, e = .returned (.slice ko n kc) ∧ Ow w' w.heap.size ko n kc zs ∧ Below w.heap.size w w'
theorem twin_nil (w : World) : Calls Tryd.prog 22 #[.slice none 0 0] w fun e w' => e = .returned (.slice none 0 0) ∧ w = w' := by
  go_enter Tryd.func22, Tryd.ntmps22
  go_wp2
  go_ret
  exact ⟨rfl, rfl⟩
theorem twin_some (ad : Addr) (n cap : Nat) (zs : List Int) (w : World) (hl : zs.length = n) (hm : n ≤ 1000000) (h : Rd w (some ad) zs) :
    Calls Tryd.prog 22 #[.slice (some ad) n cap] w (R1 w n zs) := by
  obtain ⟨i0, hi, hz0, hz1, hz2⟩ := info_parts Tryd.info5
  have H := Lib.hid h; have HL := Lib.hid hl
  have HO : Hid (w.ownsRow w.heap.size 5 1 (.slice none 0 0) 0 []) := World.ownsRow_nil _ _ _ _
  clear h hl
  go_enter Tryd.func22, Tryd.ntmps22
  go_wp2_with (at_builtin; refine wpList_append_own _ rfl (.tmp 4) (.tmp 5) 39 rfl w.heap.size 5 i0 (.int .u8 0) 1 1 Tryd.underlying39 hi hz0 hz1 hz2 rfl (by decide) _ 0 _ rfl HO.out ad n cap (zs.map (.int .u8)) rfl ?c0 ?c1 ?c2 ?c3 ?c4 ?c5 ?_)
  case c0 => simp [HL.out]
  case c1 => exact H.out.cells _ rfl
  case c2 => exact ints_oneCell _ _
  case c3 => unfold maxLen; omega
  case c4 => omega
  case c5 => exact Nat.le_refl _
  intro v' w1 hown1 hgrow1 hnil
  have HB1 := Lib.hid (Below.grown (Below.refl _ _) hgrow1 (Nat.le_refl _) (fun k h => by cases h))
  have hv := Ow.of HL.out (by simpa using hown1)
  obtain ⟨ko, kc, hv, how⟩ := hv
  rw [hv]
  have HOW := Lib.hid how
  clear how hown1 hgrow1 hnil hv
  go_wp2
  go_ret
  exact ⟨ko, kc, rfl, HOW.out, HB1.out⟩
theorem twin_any (ao : Option Addr) (n cap : Nat) (zs : List Int) (w : World) (hl : zs.length = n) (hm : n ≤ 1000000) (h : Rd w ao zs) (hn : ao = none → cap = 0) :
    Calls Tryd.prog 22 #[.slice ao n cap] w (R1 w n zs) := by
  cases ao with
  | some ad => exact twin_some ad n cap zs w hl hm h
  | none =>
    obtain rfl := hn rfl
    have hz : zs = [] := by
      rcases h with h | ⟨b, o, h, _⟩
      · exact h
      · cases h
    subst hz
    obtain rfl : n = 0 := hl.symm
    refine (twin_nil w).mono ?_
    rintro e w' ⟨rfl, rfl⟩
    exact ⟨none, 0, rfl, ⟨rfl, Nat.le_refl _, Nat.zero_le _, World.ownsRow_nil _ _ _ _⟩, Below.refl _ _⟩
theorem ne_of_len {xs ys : List Int} (h : xs.length ≠ ys.length) : decide (xs = ys) = false := decide_eq_false (fun e => h (by rw [e]))
/-- THE COMPARISON OF BYTES: it only reads. -/
theorem bytes_cmp (a b : Option Addr) (n m ca cb : Nat) (xs ys : List Int) (w : World) (hx : xs.length = n) (hy : ys.length = m) (hm : n ≤ maxLen) (h1 : Rd w a xs) (h2 : Rd w b ys) :
    Calls Tryd.prog 21 #[.slice a n ca, .slice b m cb] w fun e w' => e = .returned (.bool (decide (xs = ys))) ∧ ∃ q, w' = w.drewN q := by
  unfold maxLen at hm
  by_cases hnm : n = m
  · subst hnm
    obtain ⟨r, hr⟩ : ∃ r, r = decide (xs = ys) := ⟨_, rfl⟩
    rw [← hr]
    have HR := Lib.hid hr; have H1 := Lib.hid h1; have H2 := Lib.hid h2; have HX := Lib.hid hx; have HY := Lib.hid hy
    have d0 : ((n : Int) != n) = false := by simp
    clear hr h1 h2 hx hy
    go_enter Tryd.func21, Tryd.ntmps21
    go_wp2
    go_loopw [5] (fun i wr => ∃ k q : Nat, k ≤ n ∧ i = .int .i64 k ∧ wr = w.drewN q ∧ xs.take k = ys.take k) (fun i _ => n - (intOf i).toNat)
    case atStart => exact ⟨0, 0, Nat.zero_le _, rfl, rfl, rfl⟩
    case round =>
      obtain ⟨k, q, hk, rfl, hw, ht⟩ := hrel
      have HW := Lib.hid hw; have HT := Lib.hid ht
      by_cases hlt : k < n
      · obtain ⟨b1, o1, rfl, c1⟩ := H1.out.at (by rw [HX.out]; omega)
        obtain ⟨b2, o2, rfl, c2⟩ := H2.out.at (by rw [HY.out]; omega)
        have g1 : wr.cell? ⟨b1, o1 + k, none⟩ = some (.int .u8 (xs.getD k 0)) := by rw [hw]; exact c1 k (by rw [HX.out]; exact hlt)
        have g2 : wr.cell? ⟨b2, o2 + k, none⟩ = some (.int .u8 (ys.getD k 0)) := by rw [hw]; exact c2 k (by rw [HY.out]; exact hlt)
        obtain ⟨c, hc⟩ : ∃ c, c = xs.getD k 0 := ⟨_, rfl⟩
        obtain ⟨d, hd⟩ : ∃ d, d = ys.getD k 0 := ⟨_, rfl⟩
        rw [← hc] at g1; rw [← hd] at g2
        have HC := Lib.hid hc; have HD := Lib.hid hd
        clear c1 c2 hc hd hw ht
        have lx : k < xs.length := by rw [HX.out]; exact hlt
        have ly : k < ys.length := by rw [HY.out]; exact hlt
        by_cases hcd : c = d
        · subst hcd
          have d1 : (c != c) = false := by simp
          have HS : Hid (xs.take (k + 1) = ys.take (k + 1)) := by
            show _ = _
            rw [List.take_succ_eq_append_getElem lx, List.take_succ_eq_append_getElem ly, HT.out]
            have e1 := HC.out; have e2 := HD.out
            simp only [List.getD, List.getElem?_eq_getElem lx, List.getElem?_eq_getElem ly, Option.getD_some] at e1 e2
            rw [← e1, ← e2]
          go_wp2
          go_quiet (fail)
          go_wp2
          go_roundw
          case rel => exact ⟨k + 1, q + nq, by omega, by go_num, by rw [HW.out, World.drewN_drewN], HS.out⟩
          case measure => simp [intOf]; omega
        · have d1 : (c != d) = true := by simp [hcd]
          have hne : r = false := by
            rw [HR.out]
            refine decide_eq_false (fun e => hcd ?_)
            rw [HC.out, HD.out, e]
          subst hne
          clear hcd lx ly
          go_wp2
          go_quiet (fail)
          go_wp2
          go_ret
          exact ⟨rfl, q + nq, by rw [HW.out, World.drewN_drewN]⟩
      · obtain rfl : k = n := by omega
        have ht' : r = true := by
          rw [HR.out]
          rw [List.take_of_length_le (by rw [HX.out]; exact Nat.le_refl _), List.take_of_length_le (by rw [HY.out]; exact Nat.le_refl _)] at ht
          exact decide_eq_true ht
        subst ht'
        clear hw ht
        go_wp2
        go_ret
        exact ⟨rfl, q, HW.out⟩
  · have hne : decide (xs = ys) = false := ne_of_len (by omega)
    rw [hne]
    have d0 : ((n : Int) != m) = true := by simp; omega
    clear hne hx hy h1 h2
    go_enter Tryd.func21, Tryd.ntmps21
    go_wp2
    go_ret
    exact ⟨rfl, 0, rfl⟩
theorem own_ge {w : World} {base e n : Nat} {v : Value} {xs : List Value} (h : w.ownsRow base e 1 v n xs) : ∀ k, v.ownBlock = some k → base ≤ k := by
  intro k hk
  rcases h.2 with ⟨h2, _⟩ | ⟨g, cap, cur, q1, q2, q3, q4⟩
  · subst h2; cases hk
  · subst q1; cases hk; exact q2
theorem uwrap_at (a M : Int) (h : 0 < M) (hM : M ≤ 1000000000) : ∃ k : Nat, (k : Int) < M ∧ wrap64 ((IntKind.u64.wrap a).tmod M) = k := by
  have h0 : 0 ≤ IntKind.u64.wrap a := by rw [IntKind.wrap_u64]; omega
  refine ⟨((IntKind.u64.wrap a) % M).toNat, ?_, ?_⟩
  · have := Int.emod_lt_of_pos (IntKind.u64.wrap a) h; have := Int.emod_nonneg (IntKind.u64.wrap a) (by omega : M ≠ 0); omega
  · rw [Int.tmod_eq_emod_of_nonneg h0]
    have h1 := Int.emod_lt_of_pos (IntKind.u64.wrap a) h; have h2 := Int.emod_nonneg (IntKind.u64.wrap a) (by omega : M ≠ 0)
    generalize IntKind.u64.wrap a % M = r at *
    rw [IntWalk.wrap64_in _ ⟨by omega, by omega⟩]; omega
theorem Part.ok.take {w : World} {a : Option Addr} {n c : Nat} {z : List Int} (h : Part.ok w ⟨a, n, c, z⟩) (k : Nat) (hk : k ≤ n) : Part.ok w ⟨a, k, c, z.take k⟩ :=
  ⟨h.rd.take k, by have := h.len; simp at this ⊢; omega, h.bts.take k, Nat.le_trans hk h.small, h.nil⟩
theorem Part.ok.drop {w : World} {b o n c k : Nat} {z : List Int} (h : Part.ok w ⟨some ⟨b, o, none⟩, n, c, z⟩) (c' : Nat) (hk : k ≤ n) : Part.ok w ⟨some ⟨b, o + k, none⟩, n - k, c', z.drop k⟩ :=
  ⟨h.rd.drop k, by have := h.len; simp at this ⊢; omega, h.bts.drop k, Nat.le_trans (Nat.sub_le _ _) h.small, fun h => by cases h⟩
theorem Part.ok.empty (w : World) (a : Option Addr) (c : Nat) (h : a = none → c = 0) : Part.ok w ⟨a, 0, c, []⟩ := ⟨Rd.nil _ _, rfl, Bts.nil, Nat.zero_le _, h⟩
/-- What is left from k on: at the end of its room a slice keeps its address. -/
theorem Part.ok.rest {w : World} {b n c k : Nat} {z : List Int} (h : Part.ok w ⟨some ⟨b, 0, none⟩, n, c, z⟩) (hk : k ≤ n) (hc : n ≤ c) : Part.ok w ⟨if c = k then some ⟨b, 0, none⟩ else some ⟨b, k, none⟩, n - k, c - k, z.drop k⟩ := by
  by_cases e : c = k
  · rw [if_pos e]
    have hz : z.drop k = [] := List.drop_of_length_le (by have := h.len; simp at this; omega)
    have hn : n - k = 0 := by omega
    rw [hz, hn]
    exact Part.ok.empty _ _ _ (fun h => by cases h)
  · rw [if_neg e]
    have := h.drop (c - k) hk
    rwa [Nat.zero_add] at this
/-- A part that lies in a row of bytes of its own. -/
def Own1 (w : World) (q : Part) : Prop := q.ok w ∧ (q.a = none ∨ ∃ g cur, q.a = some ⟨g, 0, none⟩ ∧ w.heap[g]? = some (.cells cur 5 (0, 0)))
theorem Own1.of_ow {w : World} {base n cap : Nat} {ao : Option Addr} {zs : List Int} (h : Ow w base ao n cap zs) (hz : Bts zs) : Own1 w ⟨ao, n, cap, zs⟩ := by
  refine ⟨h.part hz, ?_⟩
  rcases h.2.2.2.2 with ⟨q, _⟩ | ⟨g, c, cur, q, _, hg, _⟩
  · simp only [Value.slice.injEq] at q; exact .inl q.1
  · simp only [Value.slice.injEq] at q; exact .inr ⟨g, cur, q.1, hg⟩
theorem Own1.below {w w' : World} {q : Part} (h : Own1 w q) (hB : Below w.heap.size w w') : Own1 w' q := by
  refine ⟨h.1.below hB, ?_⟩
  rcases h.2 with h2 | ⟨g, cur, h2, h3⟩
  · exact .inl h2
  · exact .inr ⟨g, cur, h2, by rw [hB.block g (Array.getElem?_eq_some_iff.1 h3).1, h3]⟩
theorem Own1.grown {w w' : World} {q : Part} {base n e : Nat} {v : Value} {xs : List Value} (he : e ≠ 5) (h : Own1 w q) (ho : w.ownsRow base e 1 v n xs) (hg : w.grownBy w' v.ownBlock) : Own1 w' q := by
  rcases h.2 with h2 | ⟨g, cur, h2, h3⟩
  · have hz : q.z = [] := by
      rcases h.1.rd with h4 | ⟨b, o, h4, _⟩
      · exact h4
      · rw [h2] at h4; cases h4
    exact ⟨⟨.inl hz, h.1.len, h.1.bts, h.1.small, h.1.nil⟩, .inl h2⟩
  · have hlt := (Array.getElem?_eq_some_iff.1 h3).1
    have hne : some g ≠ v.ownBlock := by
      intro e'
      rcases ho.2 with ⟨q', _⟩ | ⟨g', cap, cur', q1, q2, q3, q4⟩
      · subst q'; cases e'
      · subst q1
        cases e'
        rw [q3] at h3
        simp only [Option.some.injEq, Obj.cells.injEq] at h3
        exact he h3.2.1
    have hb := hg.block g hlt hne
    refine ⟨⟨?_, h.1.len, h.1.bts, h.1.small, h.1.nil⟩, .inr ⟨g, cur, h2, by rw [hb, h3]⟩⟩
    rcases h.1.rd with h4 | ⟨b, o, ha, hc⟩
    · exact .inl h4
    · rw [h2] at ha
      cases ha
      exact .inr ⟨g, 0, h2, fun j hj => by rw [← hc j hj]; exact World.cell?_of_block hb⟩

end Go.Proofs.YtifbbikhjolnjaaDoor
