/-
  Bytes and twins: contracts and plain facts.
-/
import Derived.Test.YtdpnkdliibccjaaDoorProg
import Derived.WalkKit
import Derived.WalkSpells
import Derived.WalkSmall
import Derived.Outline
import Derived.Lib.Hide
import Derived.Deep.QuietTactic
import Derived.BigQuiet
import Derived.Laws.CopyOwn
import Derived.Laws.Rows
import Derived.Laws.AppendOwnNone
namespace Go.Proofs.YtdpnkdliibccjaaDoor
open Go.RowKit
set_option linter.unusedVariables false

theorem cell_lt {w : World} {a : Addr} {v : Value} (h : w.cell? a = some v) : a.block < w.heap.size := by
  by_cases hb : a.block < w.heap.size
  · exact hb
  · simp [World.cell?, Array.getElem?_eq_none (Nat.le_of_not_lt hb)] at h
/-- A row that is owned to its end is its block. -/
theorem block_of_owns {w : World} {base e g n : Nat} {xs : List Value} (h : w.ownsRow base e 1 (.slice (some ⟨g, 0, none⟩) n n) n xs) : w.heap[g]? = some (.cells xs.toArray e (0, 0)) := by
  rcases h.2 with ⟨h', _⟩ | ⟨g', cap', cur, h', _, hg, _, _, hcs, htake⟩
  · simp at h'
  · simp only [Value.slice.injEq, Option.some.injEq, Addr.mk.injEq, and_true, true_and] at h'
    obtain ⟨rfl, rfl⟩ := h'
    rw [List.take_of_length_le (by simp; omega)] at htake
    rw [hg, ← htake]
theorem cell_of_block {w : World} {g t j : Nat} {l : List Value} (h : w.heap[g]? = some (.cells l.toArray t (0, 0))) (hj : j < l.length) : w.cell? ⟨g, j, none⟩ = some (l.getD j undef) := by
  simp [World.cell?, h, List.getD, hj]
/-- THE BYTES zs LIE AT ao. -/
def Rd (w : World) (ao : Option Addr) (zs : List Int) : Prop :=
  zs = [] ∨ ∃ b o, ao = some ⟨b, o, none⟩ ∧ ∀ j, j < zs.length → w.cell? ⟨b, o + j, none⟩ = some (.int .u8 (zs.getD j 0))
/-- Each is a byte. -/
def Bts (zs : List Int) : Prop := ∀ j, j < zs.length → 0 ≤ zs.getD j 0 ∧ zs.getD j 0 ≤ 255
theorem Rd.nil (w : World) (ao : Option Addr) : Rd w ao [] := .inl rfl
theorem Rd.below {w w' : World} {ao : Option Addr} {zs : List Int} (h : Rd w ao zs) (hB : Below w.heap.size w w') : Rd w' ao zs := by
  rcases h with h | ⟨b, o, ha, hc⟩
  · exact .inl h
  · exact .inr ⟨b, o, ha, fun j hj => by have := hc j hj; rw [hB.cell (cell_lt this), this]⟩
theorem Rd.block {w : World} {g t : Nat} {zs : List Int} (h : w.heap[g]? = some (.cells (zs.map (Value.int .u8)).toArray t (0, 0))) : Rd w (some ⟨g, 0, none⟩) zs := by
  refine .inr ⟨g, 0, rfl, fun j hj => ?_⟩
  rw [Nat.zero_add, cell_of_block h (by simpa using hj)]
  simp [List.getD, hj]
theorem Rd.at {w : World} {ao : Option Addr} {zs : List Int} (h : Rd w ao zs) (h0 : 0 < zs.length) : ∃ b o, ao = some ⟨b, o, none⟩ ∧ ∀ j, j < zs.length → w.cell? ⟨b, o + j, none⟩ = some (.int .u8 (zs.getD j 0)) := by
  rcases h with h | h
  · subst h; simp at h0
  · exact h
theorem Bts.nil : Bts [] := fun j hj => by simp at hj
theorem Bts.append {a b : List Int} (ha : Bts a) (hb : Bts b) : Bts (a ++ b) := fun j hj => by
  simp only [List.getD] at *
  by_cases h : j < a.length
  · rw [List.getElem?_append_left h]; exact ha j h
  · rw [List.getElem?_append_right (by omega)]
    exact hb (j - a.length) (by simp at hj; omega)
theorem Bts.take {a : List Int} (ha : Bts a) (k : Nat) : Bts (a.take k) := fun j hj => by
  simp at hj
  have := ha j (by omega)
  simpa [List.getD, List.getElem?_take, show j < k by omega] using this
theorem Bts.drop {a : List Int} (ha : Bts a) (k : Nat) : Bts (a.drop k) := fun j hj => by
  simp at hj
  have := ha (k + j) (by omega)
  simpa [List.getD] using this
/-- The cells of bytes, as the laws on append ask for them. -/
theorem Rd.cells {w : World} {ao : Option Addr} {zs : List Int} (h : Rd w ao zs) : ∀ ad, ao = some ad → ∀ j u, (zs.map (Value.int .u8))[j]? = some u → w.cell? (ad.add j) = some u := by
  intro ad had j u hu
  obtain ⟨hj, hu⟩ := List.getElem?_eq_some_iff.1 hu
  simp at hj
  obtain ⟨b, o, ha, hc⟩ := h.at (by omega)
  rw [had] at ha
  obtain rfl := Option.some.inj ha
  rw [Addr.add_lit, hc j hj, ← hu]
  simp [List.getD, hj]
theorem Rd.take {w : World} {ao : Option Addr} {zs : List Int} (h : Rd w ao zs) (k : Nat) : Rd w ao (zs.take k) := by
  rcases h with h | ⟨b, o, ha, hc⟩
  · exact .inl (by simp [h])
  · refine .inr ⟨b, o, ha, fun j hj => ?_⟩
    simp at hj
    rw [hc j (by omega)]
    simp [List.getD, show j < k by omega]
theorem Rd.drop {w : World} {b o : Nat} {zs : List Int} (h : Rd w (some ⟨b, o, none⟩) zs) (k : Nat) : Rd w (some ⟨b, o + k, none⟩) (zs.drop k) := by
  rcases h with h | ⟨b', o', ha, hc⟩
  · exact .inl (by simp [h])
  · cases ha
    refine .inr ⟨b, o + k, rfl, fun j hj => ?_⟩
    simp at hj
    rw [Nat.add_assoc, hc (k + j) (by omega)]
    simp [List.getD]
theorem Rd.of_owns {w : World} {base e g n cap : Nat} {zs : List Int} (h : w.ownsRow base e 1 (.slice (some ⟨g, 0, none⟩) n cap) n (zs.map (Value.int .u8))) : Rd w (some ⟨g, 0, none⟩) zs := by
  refine .inr ⟨g, 0, rfl, fun j hj => ?_⟩
  have hl := h.1
  rw [List.length_map] at hl
  rw [Nat.zero_add, h.cellAt j (by omega)]
  simp [List.getD, hj]
/-- A part: where its bytes lie, how many, of how much room, which. -/
structure Part where
  a : Option Addr
  l : Nat
  c : Nat
  z : List Int
/-- It is there. -/
structure Part.ok (w : World) (p : Part) : Prop where
  rd : Rd w p.a p.z
  len : p.z.length = p.l
  bts : Bts p.z
  small : p.l ≤ maxLen
  nil : p.a = none → p.c = 0
  room : p.l ≤ p.c ∧ p.c ≤ maxLen
theorem Part.ok.below {w w' : World} {p : Part} (h : p.ok w) (hB : Below w.heap.size w w') : p.ok w' := ⟨h.rd.below hB, h.len, h.bts, h.small, h.nil, h.room⟩
/-- THE PARTS ps LIE AT ao. -/
def Ps (w : World) (ao : Option Addr) (ps : List Part) : Prop :=
  ps = [] ∨ ∃ b o, ao = some ⟨b, o, none⟩ ∧ ∀ r, (h : r < ps.length) → w.cell? ⟨b, o + r, none⟩ = some (.slice ps[r].a ps[r].l ps[r].c) ∧ ps[r].ok w
theorem Ps.nil (w : World) (ao : Option Addr) : Ps w ao [] := .inl rfl
theorem Ps.below {w w' : World} {ao : Option Addr} {ps : List Part} (h : Ps w ao ps) (hB : Below w.heap.size w w') : Ps w' ao ps := by
  rcases h with h | ⟨b, o, ha, hc⟩
  · exact .inl h
  · exact .inr ⟨b, o, ha, fun r hr => ⟨by rw [hB.cell (cell_lt (hc r hr).1)]; exact (hc r hr).1, (hc r hr).2.below hB⟩⟩
/-- All bytes, one behind the other. -/
def flat (ps : List Part) : List Int := ps.flatMap (·.z)
theorem flat_take (ps : List Part) (k : Nat) (hk : k < ps.length) : flat (ps.take (k + 1)) = flat (ps.take k) ++ ps[k].z := by
  rw [List.take_succ_eq_append_getElem hk]; simp only [flat, List.flatMap_append, List.flatMap_cons, List.flatMap_nil, List.append_nil]
/-- What Heavy tells. -/
def HeavyPost (w : World) (n : Nat) (ps : List Part) (e : Ending) (w' : World) : Prop :=
  ∃ b, e = .returned (.bool b) ∧ w = w' ∧ (b = false → n ≤ 20 ∧ ∀ r, (h : r < ps.length) → ps[r].l ≤ 300)
theorem heavy_any (ao : Option Addr) (n cap : Nat) (ps : List Part) (w : World) (hl : ps.length = n) (h : Ps w ao ps) :
    Calls Tryd.prog 8 #[.slice ao n cap] w (HeavyPost w n ps) := by
  by_cases h20 : 20 < n
  · go_enter Tryd.func8, Tryd.ntmps8
    go_wp2
    go_ret
    exact ⟨true, rfl, rfl, fun h => by cases h⟩
  · rcases h with rfl | ⟨b, o, rfl, hc⟩
    · obtain rfl : n = 0 := hl.symm
      go_enter Tryd.func8, Tryd.ntmps8
      go_wp2
      refine wp_loop_rounds 1 ?_
      rw [rounds_succ]
      go_wp2
      go_ret
      exact ⟨false, rfl, rfl, fun _ => ⟨by omega, fun r hr => by simp at hr⟩⟩
    · have HL := Lib.hid hl; have HC := Lib.hid hc
      clear hl hc
      go_enter Tryd.func8, Tryd.ntmps8
      go_wp2
      go_loop [3] (fun i => ∃ k : Nat, k ≤ n ∧ i = .int .i64 k ∧ ∀ r, (h : r < ps.length) → r < k → ps[r].l ≤ 300) (fun i => n - (intOf i).toNat)
      case atStart => exact ⟨0, Nat.zero_le _, rfl, fun r hr hk => by omega⟩
      case round =>
        obtain ⟨k, hk, rfl, hall⟩ := hrel
        have HA := Lib.hid hall
        clear hall
        by_cases hlt : k < n
        · obtain ⟨hcell, hok⟩ := HC.out k (by rw [HL.out]; exact hlt)
          have HP : Hid (ps[k]'(by rw [HL.out]; exact hlt) = ps[k]'(by rw [HL.out]; exact hlt)) := rfl
          have HS : Hid (∀ h : k < ps.length, (ps[k]'(by rw [HL.out]; exact hlt)).l ≤ 300 → ps[k].l ≤ 300) := fun _ h => h
          generalize ps[k]'(by rw [HL.out]; exact hlt) = p at hcell hok HS
          obtain ⟨pa, pl, pc, pz⟩ := p
          have hsm := hok.small
          simp only at hcell hsm
          unfold maxLen at hsm
          clear hok HP
          by_cases h3 : 300 < pl
          · go_wp2
            go_ret
            exact ⟨true, rfl, rfl, fun h => by cases h⟩
          · go_wp2
            go_round
            case rel => exact ⟨k + 1, by omega, by go_num, fun r hr hk1 => by
              by_cases e : r = k
              · subst e; exact HS.out hr (by show pl ≤ 300; omega)
              · exact HA.out r hr (by omega)⟩
            case measure => simp [intOf]; omega
        · obtain rfl : k = n := by omega
          go_wp2
          go_ret
          exact ⟨false, rfl, rfl, fun _ => ⟨by omega, fun r hr => HA.out r hr (by rw [← HL.out]; exact hr)⟩⟩
/-- A row of bytes, just made. -/
theorem part_new (w : World) (zs : List Int) (t : Nat) (fr : Nat × Nat) (hz : Bts zs) (hm : zs.length ≤ maxLen) : Part.ok (w.alloc (.cells (zs.map (Value.int .u8)).toArray t fr)) ⟨some ⟨w.heap.size, 0, none⟩, zs.length, zs.length, zs⟩ :=
  ⟨.inr ⟨w.heap.size, 0, rfl, fun j hj => by rw [Nat.zero_add, World.cell?_alloc_mark]; simp only at hj; simp [List.getD, hj]⟩, rfl, hz, hm, (fun h => by cases h), Nat.le_refl _, hm⟩
def Part.v (p : Part) : Value := .slice p.a p.l p.c
/-- A row of parts, just made. -/
theorem ps_new (w : World) (ps : List Part) (t : Nat) (h : ∀ r, (h : r < ps.length) → ps[r].ok w) : Ps (w.alloc (.cells (ps.map Part.v).toArray t)) (some ⟨w.heap.size, 0, none⟩) ps :=
  .inr ⟨w.heap.size, 0, rfl, fun r hr => ⟨by rw [Nat.zero_add, World.cell?_alloc_mark]; simp [hr, Part.v], (h r hr).below ((Below.refl _ _).alloc (Nat.le_refl _) _)⟩⟩
theorem Tryd.info5 : (Tryd.prog.info? 5).map (fun i => (i.zero, i.size, i.bytes)) = some (some (.int .u8 0), 1, 1) := by kernel_rfl
/-- The bytes zs lie in a row that is owned from base on. -/
def Ow (w : World) (base : Nat) (ao : Option Addr) (n cap : Nat) (zs : List Int) : Prop :=
  zs.length = n ∧ n ≤ cap ∧ cap ≤ maxLen ∧ w.ownsRow base 5 1 (.slice ao n cap) n (zs.map (Value.int .u8))
theorem Ow.rd {w : World} {base : Nat} {ao : Option Addr} {n cap : Nat} {zs : List Int} (h : Ow w base ao n cap zs) : Rd w ao zs := by
  obtain ⟨h1, h2, h3, h4⟩ := h
  rcases h4.2 with ⟨q, hn⟩ | ⟨g, c, cur, q, _⟩
  · exact .inl (List.eq_nil_of_length_eq_zero (by omega))
  · simp only [Value.slice.injEq] at q
    obtain ⟨rfl, _, rfl⟩ := q
    exact Rd.of_owns h4
theorem owns_below {w w' : World} {base e n : Nat} {v : Value} {xs : List Value} (h : w.ownsRow base e 1 v n xs) (hB : Below w.heap.size w w') : w'.ownsRow base e 1 v n xs := by
  obtain ⟨h1, h2⟩ := h
  refine ⟨h1, ?_⟩
  rcases h2 with h2 | ⟨g, cap, cur, q1, q2, q3, q4⟩
  · exact .inl h2
  · exact .inr ⟨g, cap, cur, q1, q2, by rw [hB.block g (Array.getElem?_eq_some_iff.1 q3).1, q3], q4⟩
theorem Ow.below {w w' : World} {base : Nat} {ao : Option Addr} {n cap : Nat} {zs : List Int} (h : Ow w base ao n cap zs) (hB : Below w.heap.size w w') : Ow w' base ao n cap zs :=
  ⟨h.1, h.2.1, h.2.2.1, owns_below h.2.2.2 hB⟩
theorem Ow.of {w : World} {base n : Nat} {v : Value} {zs : List Int} (hl : zs.length = n) (h : w.ownsRow base 5 1 v n (zs.map (Value.int .u8))) : ∃ ao cap, v = .slice ao n cap ∧ Ow w base ao n cap zs := by
  rcases h.2 with ⟨q, hn⟩ | ⟨g, c, cur, q, _, _, q1, q2, _⟩
  · subst q; subst hn
    exact ⟨none, 0, rfl, hl, Nat.le_refl _, Nat.zero_le _, h⟩
  · subst q
    exact ⟨_, c, rfl, hl, q1, q2, h⟩
/-- An owned row is nil and empty, or lies at a block's head. -/
theorem Ow.at {w : World} {base : Nat} {ao : Option Addr} {n cap : Nat} {zs : List Int} (h : Ow w base ao n cap zs) (h0 : 0 < n) : ∃ g, ao = some ⟨g, 0, none⟩ ∧ base ≤ g := by
  rcases h.2.2.2.2 with ⟨_, hn⟩ | ⟨g, c, cur, q, hg, _⟩
  · exact absurd hn (by omega)
  · simp only [Value.slice.injEq] at q
    exact ⟨g, q.1, hg⟩
theorem Ow.nil {w : World} {base n cap : Nat} {ao : Option Addr} {zs : List Int} (h : Ow w base ao n cap zs) (hn : ao = none) : cap = 0 := by
  rcases h.2.2.2.2 with ⟨q, _⟩ | ⟨g, c, cur, q, _⟩
  · simp only [Value.slice.injEq] at q; exact q.2.2
  · simp only [Value.slice.injEq] at q; rw [hn] at q; cases q.1
theorem Ow.part {w : World} {base n cap : Nat} {ao : Option Addr} {zs : List Int} (h : Ow w base ao n cap zs) (hz : Bts zs) : Part.ok w ⟨ao, n, cap, zs⟩ :=
  ⟨h.rd, h.1, hz, Nat.le_trans h.2.1 h.2.2.1, h.nil, h.2.1, h.2.2.1⟩
/-- What Twin leaves. -/
def R1 (w : World) (n : Nat) (zs : List Int) (e : Ending) (w' : World) : Prop :=
  ∃ ko kc, e = .returned (.slice ko n kc) ∧ Ow w' w.heap.size ko n kc zs ∧ Below w.heap.size w w'
theorem twin_nil (w : World) : Calls Tryd.prog 16 #[.slice none 0 0] w fun e w' => e = .returned (.slice none 0 0) ∧ w = w' := by
  go_enter Tryd.func16, Tryd.ntmps16
  go_wp2
  go_ret
  exact ⟨rfl, rfl⟩
theorem twin_some (ad : Addr) (n cap : Nat) (zs : List Int) (w : World) (hl : zs.length = n) (hm : n ≤ 1000000) (h : Rd w (some ad) zs) :
    Calls Tryd.prog 16 #[.slice (some ad) n cap] w (R1 w n zs) := by
  obtain ⟨i0, hi, hz0, hz1, hz2⟩ := info_parts Tryd.info5
  have H := Lib.hid h; have HL := Lib.hid hl
  have HO : Hid (w.ownsRow w.heap.size 5 1 (.slice none 0 0) 0 []) := World.ownsRow_nil _ _ _ _
  clear h hl
  go_enter Tryd.func16, Tryd.ntmps16
  go_wp2_with (at_builtin; refine wpList_append_own _ rfl (.tmp 4) (.tmp 5) 28 rfl w.heap.size 5 i0 (.int .u8 0) 1 1 Tryd.underlying28 hi hz0 hz1 hz2 rfl (by decide) _ 0 _ rfl HO.out ad n cap (zs.map (.int .u8)) rfl ?c0 ?c1 ?c2 ?c3 ?c4 ?c5 ?_)
  case c0 => simp [HL.out]
  case c1 => exact H.out.cells _ rfl
  case c2 => exact ints_oneCell _ _
  case c3 => unfold maxLen; omega
  case c4 => omega
  case c5 => exact Nat.le_refl _
  intro v' w1 hown1 hgrow1 hnil
  have HB1 := Lib.hid (Below.grown (Below.refl _ _) hgrow1 (Nat.le_refl _) (fun k h => by cases h))
  have hv := Ow.of HL.out (by simpa using hown1)
  obtain ⟨ko, kc, hv, how⟩ := hv
  rw [hv]
  have HOW := Lib.hid how
  clear how hown1 hgrow1 hnil hv
  go_wp2
  go_ret
  exact ⟨ko, kc, rfl, HOW.out, HB1.out⟩
theorem twin_any (ao : Option Addr) (n cap : Nat) (zs : List Int) (w : World) (hl : zs.length = n) (hm : n ≤ 1000000) (h : Rd w ao zs) (hn : ao = none → cap = 0) :
    Calls Tryd.prog 16 #[.slice ao n cap] w (R1 w n zs) := by
  cases ao with
  | some ad => exact twin_some ad n cap zs w hl hm h
  | none =>
    obtain rfl := hn rfl
    have hz : zs = [] := by
      rcases h with h | ⟨b, o, h, _⟩
      · exact h
      · cases h
    subst hz
    obtain rfl : n = 0 := hl.symm
    refine (twin_nil w).mono ?_
    rintro e w' ⟨rfl, rfl⟩
    exact ⟨none, 0, rfl, ⟨rfl, Nat.le_refl _, Nat.zero_le _, World.ownsRow_nil _ _ _ _⟩, Below.refl _ _⟩
theorem ne_of_len {xs ys : List Int} (h : xs.length ≠ ys.length) : decide (xs = ys) = false := decide_eq_false (fun e => h (by rw [e]))
/-- THE COMPARISON OF BYTES: it only reads. -/
theorem bytes_cmp (a b : Option Addr) (n m ca cb : Nat) (xs ys : List Int) (w : World) (hx : xs.length = n) (hy : ys.length = m) (hm : n ≤ maxLen) (h1 : Rd w a xs) (h2 : Rd w b ys) :
    Calls Tryd.prog 15 #[.slice a n ca, .slice b m cb] w fun e w' => e = .returned (.bool (decide (xs = ys))) ∧ ∃ q, w' = w.drewN q := by
  unfold maxLen at hm
  by_cases hnm : n = m
  · subst hnm
    obtain ⟨r, hr⟩ : ∃ r, r = decide (xs = ys) := ⟨_, rfl⟩
    rw [← hr]
    have HR := Lib.hid hr; have H1 := Lib.hid h1; have H2 := Lib.hid h2; have HX := Lib.hid hx; have HY := Lib.hid hy
    have d0 : ((n : Int) != n) = false := by simp
    clear hr h1 h2 hx hy
    go_enter Tryd.func15, Tryd.ntmps15
    go_wp2
    go_loopw [5] (fun i wr => ∃ k q : Nat, k ≤ n ∧ i = .int .i64 k ∧ wr = w.drewN q ∧ xs.take k = ys.take k) (fun i _ => n - (intOf i).toNat)
    case atStart => exact ⟨0, 0, Nat.zero_le _, rfl, rfl, rfl⟩
    case round =>
      obtain ⟨k, q, hk, rfl, hw, ht⟩ := hrel
      have HW := Lib.hid hw; have HT := Lib.hid ht
      by_cases hlt : k < n
      · obtain ⟨b1, o1, rfl, c1⟩ := H1.out.at (by rw [HX.out]; omega)
        obtain ⟨b2, o2, rfl, c2⟩ := H2.out.at (by rw [HY.out]; omega)
        have g1 : wr.cell? ⟨b1, o1 + k, none⟩ = some (.int .u8 (xs.getD k 0)) := by rw [hw]; exact c1 k (by rw [HX.out]; exact hlt)
        have g2 : wr.cell? ⟨b2, o2 + k, none⟩ = some (.int .u8 (ys.getD k 0)) := by rw [hw]; exact c2 k (by rw [HY.out]; exact hlt)
        obtain ⟨c, hc⟩ : ∃ c, c = xs.getD k 0 := ⟨_, rfl⟩
        obtain ⟨d, hd⟩ : ∃ d, d = ys.getD k 0 := ⟨_, rfl⟩
        rw [← hc] at g1; rw [← hd] at g2
        have HC := Lib.hid hc; have HD := Lib.hid hd
        clear c1 c2 hc hd hw ht
        have lx : k < xs.length := by rw [HX.out]; exact hlt
        have ly : k < ys.length := by rw [HY.out]; exact hlt
        by_cases hcd : c = d
        · subst hcd
          have d1 : (c != c) = false := by simp
          have HS : Hid (xs.take (k + 1) = ys.take (k + 1)) := by
            show _ = _
            rw [List.take_succ_eq_append_getElem lx, List.take_succ_eq_append_getElem ly, HT.out]
            have e1 := HC.out; have e2 := HD.out
            simp only [List.getD, List.getElem?_eq_getElem lx, List.getElem?_eq_getElem ly, Option.getD_some] at e1 e2
            rw [← e1, ← e2]
          go_wp2
          go_quiet (fail)
          go_wp2
          go_roundw
          case rel => exact ⟨k + 1, q + nq, by omega, by go_num, by rw [HW.out, World.drewN_drewN], HS.out⟩
          case measure => simp [intOf]; omega
        · have d1 : (c != d) = true := by simp [hcd]
          have hne : r = false := by
            rw [HR.out]
            refine decide_eq_false (fun e => hcd ?_)
            rw [HC.out, HD.out, e]
          subst hne
          clear hcd lx ly
          go_wp2
          go_quiet (fail)
          go_wp2
          go_ret
          exact ⟨rfl, q + nq, by rw [HW.out, World.drewN_drewN]⟩
      · obtain rfl : k = n := by omega
        have ht' : r = true := by
          rw [HR.out]
          rw [List.take_of_length_le (by rw [HX.out]; exact Nat.le_refl _), List.take_of_length_le (by rw [HY.out]; exact Nat.le_refl _)] at ht
          exact decide_eq_true ht
        subst ht'
        clear hw ht
        go_wp2
        go_ret
        exact ⟨rfl, q, HW.out⟩
  · have hne : decide (xs = ys) = false := ne_of_len (by omega)
    rw [hne]
    have d0 : ((n : Int) != m) = true := by simp; omega
    clear hne hx hy h1 h2
    go_enter Tryd.func15, Tryd.ntmps15
    go_wp2
    go_ret
    exact ⟨rfl, 0, rfl⟩
theorem own_ge {w : World} {base e n : Nat} {v : Value} {xs : List Value} (h : w.ownsRow base e 1 v n xs) : ∀ k, v.ownBlock = some k → base ≤ k := by
  intro k hk
  rcases h.2 with ⟨h2, _⟩ | ⟨g, cap, cur, q1, q2, q3, q4⟩
  · subst h2; cases hk
  · subst q1; cases hk; exact q2
theorem flat_len (ps : List Part) (m : Nat) (h : ∀ r, (h : r < ps.length) → (ps[r].z).length ≤ m) : ∀ k, k ≤ ps.length → (flat (ps.take k)).length ≤ k * m
  | 0, _ => by simp [flat]
  | k + 1, hk => by
    have h1 := flat_len ps m h k (by omega)
    have h2 := h k (by omega)
    rw [flat_take ps k (by omega), List.length_append, Nat.add_mul, Nat.one_mul]; omega
theorem flat_bts (ps : List Part) (h : ∀ p ∈ ps, Bts p.z) : Bts (flat ps) := by
  induction ps with
  | nil => exact Bts.nil
  | cons p ps ih =>
    show Bts (p.z ++ flat ps)
    exact (h p (by simp)).append (ih (fun q hq => h q (by simp [hq])))
theorem flat_zero (ao : Option Addr) (cap : Nat) (w : World) : Calls Tryd.prog 12 #[.slice ao 0 cap] w fun e w' => e = .returned (.slice none 0 0) ∧ w = w' := by
  go_enter Tryd.func12, Tryd.ntmps12
  go_wp2
  refine wp_loop_rounds 1 ?_
  rw [rounds_succ]
  go_wp2
  go_ret
  exact ⟨rfl, rfl⟩
theorem flat_some (b o n cap : Nat) (ps : List Part) (w : World) (hl : ps.length = n) (hm : n ≤ 20) (hc : ∀ r, (h : r < ps.length) → w.cell? ⟨b, o + r, none⟩ = some (.slice ps[r].a ps[r].l ps[r].c) ∧ ps[r].ok w) (h3 : ∀ r, (h : r < ps.length) → ps[r].l ≤ 300) :
    Calls Tryd.prog 12 #[.slice (some ⟨b, o, none⟩) n cap] w (R1 w (flat ps).length (flat ps)) := by
  obtain ⟨i0, hi, hz0, hz1, hz2⟩ := info_parts Tryd.info5
  have HFL := Lib.hid (flat_len ps 300 (fun r hr => by rw [(hc r hr).2.len]; exact h3 r hr))
  have HL := Lib.hid hl; have HC := Lib.hid hc; have H3 := Lib.hid h3
  clear hl hc h3
  go_enter Tryd.func12, Tryd.ntmps12
  go_wp2
  go_loopw [3, 4] (fun v i wr => ∃ k : Nat, k ≤ n ∧ i = .int .i64 k ∧ wr.ownsRow w.heap.size 5 1 v (flat (ps.take k)).length ((flat (ps.take k)).map (Value.int .u8)) ∧ Below w.heap.size w wr) (fun _ i _ => n - (intOf i).toNat)
  case atStart => exact ⟨0, Nat.zero_le _, rfl, World.ownsRow_nil _ _ _ _, Below.refl _ _⟩
  case round =>
    obtain ⟨k, hk, rfl, hown, hB⟩ := hrel
    have HB := Lib.hid hB
    by_cases hlt : k < n
    · obtain ⟨hcell, hok⟩ := HC.out k (by rw [HL.out]; exact hlt)
      have HF := Lib.hid (flat_take ps k (by rw [HL.out]; exact hlt))
      have hfl := HFL.out k (by rw [HL.out]; omega)
      have hpl3 := H3.out k (by rw [HL.out]; exact hlt)
      generalize ps[k]'(by rw [HL.out]; exact hlt) = p at hcell hok HF hpl3
      obtain ⟨pa, pl, pc, pz⟩ := p
      have hok' := hok.below hB
      have hcell' : wr.cell? ⟨b, o + k, none⟩ = some (.slice pa pl pc) := by rw [hB.cell (cell_lt hcell)]; exact hcell
      simp only at hpl3
      obtain ⟨F, hF⟩ : ∃ F, F = flat (ps.take k) := ⟨_, rfl⟩
      rw [← hF] at HF hown hfl
      obtain ⟨f, hf⟩ : ∃ f, f = F.length := ⟨_, rfl⟩
      rw [← hf] at hown hfl
      have HFF := Lib.hid hf
      have HOK := Lib.hid hok'; have HOWN := Lib.hid hown
      clear hok hok' hcell hB hown hF hf
      cases pa with
      | none =>
        have hp0 := HOK.out.nil rfl
        have hpz : pz = [] := by
          rcases HOK.out.rd with h | ⟨_, _, h, _⟩
          · exact h
          · cases h
        simp only at hp0
        have hpl : pl = 0 := by have := HOK.out.len; simp only at this; rw [← this, hpz]; rfl
        subst hp0; subst hpz; subst hpl
        go_wp2_with (at_builtin; refine wpList_append_own_none rfl (.tmp 11) (.tmp 15) 28 rfl w.heap.size 5 i0 1 Tryd.underlying28 hi _ f _ rfl HOWN.out rfl ?_)
        go_roundw
        case rel => exact ⟨k + 1, by omega, by go_num, by rw [HF.out]; simp only [List.append_nil]; rw [← HFF.out]; exact HOWN.out, HB.out⟩
        case measure => simp [intOf]; omega
      | some ad =>
        have HCE := Lib.hid (HOK.out.rd.cells ad rfl)
        go_wp2_with (at_builtin; refine wpList_append_own _ rfl (.tmp 11) (.tmp 15) 28 rfl w.heap.size 5 i0 (.int .u8 0) 1 1 Tryd.underlying28 hi hz0 hz1 hz2 rfl (by decide) _ f _ rfl HOWN.out ad pl pc (pz.map (.int .u8)) rfl ?c0 HCE.out (ints_oneCell _ _) ?c3 ?c4 ?c5 ?_)
        case c0 => have := HOK.out.len; simp at this; simp [this]
        case c3 => unfold maxLen; omega
        case c4 => omega
        case c5 => exact HB.out.size
        intro v' w1 hown1 hgrow1 hnil
        have HB1 := Lib.hid (Below.grown HB.out hgrow1 HB.out.size (own_ge HOWN.out))
        have HO1 : Hid (w1.ownsRow w.heap.size 5 1 v' (flat (ps.take (k + 1))).length ((flat (ps.take (k + 1))).map (Value.int .u8))) := by
          show w1.ownsRow _ _ _ _ _ _
          have hl := HOK.out.len
          simp only at hl
          rw [HF.out, List.map_append, List.length_append, ← HFF.out, hl]; exact hown1
        clear hown1 hgrow1 hnil
        go_wp2
        go_roundw
        case rel => exact ⟨k + 1, by omega, by go_num, HO1.out, HB1.out⟩
        case measure => simp [intOf]; omega
    · obtain rfl : k = n := by omega
      have HO : Hid (w.ownsRow w.heap.size 5 1 (.slice none 0 0) 0 []) := World.ownsRow_nil _ _ _ _
      rw [List.take_of_length_le (by rw [HL.out]; exact Nat.le_refl _)] at hown
      obtain ⟨ko, kc, rfl, how⟩ := Ow.of rfl hown
      have HOW := Lib.hid how
      clear hown how hB
      go_wp2
      go_ret
      exact ⟨ko, kc, rfl, HOW.out, HB.out⟩
/-- FLAT: the parts, one behind the other, in a row of their own. -/
theorem flat_any (ao : Option Addr) (n cap : Nat) (ps : List Part) (w : World) (hl : ps.length = n) (hm : n ≤ 20) (h : Ps w ao ps) (h3 : ∀ r, (h : r < ps.length) → ps[r].l ≤ 300) :
    Calls Tryd.prog 12 #[.slice ao n cap] w (R1 w (flat ps).length (flat ps)) := by
  rcases h with rfl | ⟨b, o, rfl, hc⟩
  · obtain rfl : n = 0 := hl.symm
    refine (flat_zero ao cap w).mono ?_
    rintro e w' ⟨rfl, rfl⟩
    exact ⟨none, 0, rfl, ⟨rfl, Nat.le_refl _, Nat.zero_le _, World.ownsRow_nil _ _ _ _⟩, Below.refl _ _⟩
  · exact flat_some b o n cap ps w hl hm hc h3
theorem uwrap_at (a M : Int) (h : 0 < M) (hM : M ≤ 1000000000) : ∃ k : Nat, (k : Int) < M ∧ wrap64 ((IntKind.u64.wrap a).tmod M) = k := by
  have h0 : 0 ≤ IntKind.u64.wrap a := by rw [IntKind.wrap_u64]; omega
  refine ⟨((IntKind.u64.wrap a) % M).toNat, ?_, ?_⟩
  · have := Int.emod_lt_of_pos (IntKind.u64.wrap a) h; have := Int.emod_nonneg (IntKind.u64.wrap a) (by omega : M ≠ 0); omega
  · rw [Int.tmod_eq_emod_of_nonneg h0]
    have h1 := Int.emod_lt_of_pos (IntKind.u64.wrap a) h; have h2 := Int.emod_nonneg (IntKind.u64.wrap a) (by omega : M ≠ 0)
    generalize IntKind.u64.wrap a % M = r at *
    rw [IntWalk.wrap64_in _ ⟨by omega, by omega⟩]; omega
theorem Rd.congr {V W : World} {ao : Option Addr} {zs : List Int} (h : Rd W ao zs) (hc : ∀ a, V.cell? a = W.cell? a) : Rd V ao zs := by
  rcases h with h | ⟨b, o, ha, hr⟩
  · exact .inl h
  · exact .inr ⟨b, o, ha, fun j hj => by rw [hc]; exact hr j hj⟩
theorem Part.ok.congr {V W : World} {p : Part} (h : p.ok W) (hc : ∀ a, V.cell? a = W.cell? a) : p.ok V := ⟨h.rd.congr hc, h.len, h.bts, h.small, h.nil, h.room⟩
theorem Ps.congr {V W : World} {ao : Option Addr} {ps : List Part} (h : Ps W ao ps) (hc : ∀ a, V.cell? a = W.cell? a) : Ps V ao ps := by
  rcases h with h | ⟨b, o, ha, hr⟩
  · exact .inl h
  · exact .inr ⟨b, o, ha, fun r hr' => ⟨by rw [hc]; exact (hr r hr').1, (hr r hr').2.congr hc⟩⟩
theorem Tryd.info25 : (Tryd.prog.info? 28).map (fun i => (i.zero, i.size, i.bytes)) = some (some (.slice none 0 0), 1, 24) := by kernel_rfl
/-- A part that lies in a row of bytes of its own. -/
def Own1 (w : World) (q : Part) : Prop := q.ok w ∧ (q.a = none ∨ ∃ g cur, q.a = some ⟨g, 0, none⟩ ∧ w.heap[g]? = some (.cells cur 5 (0, 0)))
theorem Own1.of_ow {w : World} {base n cap : Nat} {ao : Option Addr} {zs : List Int} (h : Ow w base ao n cap zs) (hz : Bts zs) : Own1 w ⟨ao, n, cap, zs⟩ := by
  refine ⟨h.part hz, ?_⟩
  rcases h.2.2.2.2 with ⟨q, _⟩ | ⟨g, c, cur, q, _, hg, _⟩
  · simp only [Value.slice.injEq] at q; exact .inl q.1
  · simp only [Value.slice.injEq] at q; exact .inr ⟨g, cur, q.1, hg⟩
theorem Own1.below {w w' : World} {q : Part} (h : Own1 w q) (hB : Below w.heap.size w w') : Own1 w' q := by
  refine ⟨h.1.below hB, ?_⟩
  rcases h.2 with h2 | ⟨g, cur, h2, h3⟩
  · exact .inl h2
  · exact .inr ⟨g, cur, h2, by rw [hB.block g (Array.getElem?_eq_some_iff.1 h3).1, h3]⟩
theorem Own1.grown {w w' : World} {q : Part} {base n e : Nat} {v : Value} {xs : List Value} (he : e ≠ 5) (h : Own1 w q) (ho : w.ownsRow base e 1 v n xs) (hg : w.grownBy w' v.ownBlock) : Own1 w' q := by
  rcases h.2 with h2 | ⟨g, cur, h2, h3⟩
  · have hz : q.z = [] := by
      rcases h.1.rd with h4 | ⟨b, o, h4, _⟩
      · exact h4
      · rw [h2] at h4; cases h4
    exact ⟨⟨.inl hz, h.1.len, h.1.bts, h.1.small, h.1.nil, h.1.room⟩, .inl h2⟩
  · have hlt := (Array.getElem?_eq_some_iff.1 h3).1
    have hne : some g ≠ v.ownBlock := by
      intro e'
      rcases ho.2 with ⟨q', _⟩ | ⟨g', cap, cur', q1, q2, q3, q4⟩
      · subst q'; cases e'
      · subst q1
        cases e'
        rw [q3] at h3
        simp only [Option.some.injEq, Obj.cells.injEq] at h3
        exact he h3.2.1
    have hb := hg.block g hlt hne
    refine ⟨⟨?_, h.1.len, h.1.bts, h.1.small, h.1.nil, h.1.room⟩, .inr ⟨g, cur, h2, by rw [hb, h3]⟩⟩
    rcases h.1.rd with h4 | ⟨b, o, ha, hc⟩
    · exact .inl h4
    · rw [h2] at ha
      cases ha
      exact .inr ⟨g, 0, h2, fun j hj => by rw [← hc j hj]; exact World.cell?_of_block hb⟩
theorem flat_eq (ps : List Part) : flat ps = (ps.map (·.z)).flatten := by simp [flat, List.flatMap_def]
theorem flat_of {ps qs : List Part} (h : qs.map (·.z) = ps.map (·.z)) : flat qs = flat ps := by rw [flat_eq, flat_eq, h]
/-- WHAT TwinRows LEAVES. -/
def TwinsPost (w : World) (n : Nat) (ps : List Part) (e : Ending) (w' : World) : Prop :=
  ∃ ko kc, ∃ qs : List Part, e = .returned (.slice ko n kc) ∧ qs.length = n ∧ qs.map (·.z) = ps.map (·.z) ∧ Ps w' ko qs ∧ n ≤ kc ∧ kc ≤ maxLen ∧ (ko = none → kc = 0) ∧ Below w.heap.size w w'
theorem ps_of_owns {w : World} {base n : Nat} {v : Value} {qs : List Part} (hl : qs.length = n) (h : w.ownsRow base 28 1 v n (qs.map Part.v)) (hq : ∀ q ∈ qs, Own1 w q) :
    ∃ ko kc, v = .slice ko n kc ∧ Ps w ko qs ∧ n ≤ kc ∧ kc ≤ maxLen ∧ (ko = none → kc = 0) := by
  rcases h.2 with ⟨q, hn⟩ | ⟨g, c, cur, q, _, _, q1, q2, _⟩
  · subst q; subst hn
    exact ⟨none, 0, rfl, .inl (List.eq_nil_of_length_eq_zero hl), Nat.le_refl _, Nat.zero_le _, fun _ => rfl⟩
  · subst q
    refine ⟨_, c, rfl, .inr ⟨g, 0, rfl, fun r hr => ⟨?_, (hq _ (List.getElem_mem hr)).1⟩⟩, q1, q2, fun h => by cases h⟩
    rw [Nat.zero_add, h.cellAt r (by omega)]
    simp [hr, Part.v]
set_option maxHeartbeats 400000 in
theorem twins_some (b o n cap : Nat) (ps : List Part) (w : World) (hl : ps.length = n) (hm : n ≤ 1000) (hc : ∀ r, (h : r < ps.length) → w.cell? ⟨b, o + r, none⟩ = some (.slice ps[r].a ps[r].l ps[r].c) ∧ ps[r].ok w) (h3 : ∀ r, (h : r < ps.length) → ps[r].l ≤ 1000000) :
    Calls Tryd.prog 9 #[.slice (some ⟨b, o, none⟩) n cap] w (TwinsPost w n ps) := by
  obtain ⟨i0, hi, hz0, hz1, hz2⟩ := info_parts Tryd.info25
  have HL := Lib.hid hl; have HC := Lib.hid hc; have H3 := Lib.hid h3
  clear hl hc h3
  go_enter Tryd.func9, Tryd.ntmps9
  go_wp2
  go_loopw [3, 4] (fun v i wr => ∃ (k : Nat) (qs : List Part), k ≤ n ∧ i = .int .i64 k ∧ qs.length = k ∧ qs.map (·.z) = (ps.take k).map (·.z) ∧ wr.ownsRow w.heap.size 28 1 v k (qs.map Part.v) ∧ (∀ q ∈ qs, Own1 wr q) ∧ Below w.heap.size w wr) (fun _ i _ => n - (intOf i).toNat)
  case atStart => exact ⟨0, [], Nat.zero_le _, rfl, rfl, rfl, World.ownsRow_nil _ _ _ _, fun q hq => (by cases hq), Below.refl _ _⟩
  case round =>
    obtain ⟨k, qs, hk, rfl, hql, hqz, hown, hqo, hB⟩ := hrel
    have HB := Lib.hid hB; have HQL := Lib.hid hql; have HQZ := Lib.hid hqz; have HOWN := Lib.hid hown; have HQO := Lib.hid hqo
    by_cases hlt : k < n
    · obtain ⟨hcell, hok⟩ := HC.out k (by rw [HL.out]; exact hlt)
      have HTK : Hid ((ps.take (k + 1)).map (·.z) = (ps.take k).map (·.z) ++ [(ps[k]'(by rw [HL.out]; exact hlt)).z]) := by
        show _ = _
        rw [List.take_succ_eq_append_getElem (by rw [HL.out]; exact hlt), List.map_append]; rfl
      have hpl3 := H3.out k (by rw [HL.out]; exact hlt)
      generalize ps[k]'(by rw [HL.out]; exact hlt) = p at hcell hok HTK hpl3
      obtain ⟨pa, pl, pc, pz⟩ := p
      have hok' := hok.below hB
      have hcell' : wr.cell? ⟨b, o + k, none⟩ = some (.slice pa pl pc) := by rw [hB.cell (cell_lt hcell)]; exact hcell
      simp only at hpl3
      have HTW := Lib.hid (twin_any pa pl pc pz wr hok'.len hpl3 hok'.rd hok'.nil)
      have HPB := Lib.hid hok'.bts
      clear hok hok' hcell hB hql hqz hown hqo
      go_wp2_with (first
        | (go_at_call 16; refine HTW.out.mono ?_; rintro e w2 ⟨ko, kc, rfl, how, hB2⟩; have HO2 := Lib.hid (owns_below HOWN.out hB2); have HQ2 := Lib.hid (Own1.of_ow how HPB.out); have HB2 := Lib.hid hB2; clear how hB2)
        | (at_builtin; (refine wpList_append_own _ rfl (.tmp 11) (.tmp 17) 22 rfl w.heap.size 28 i0 (.slice none 0 0) 1 24 Tryd.underlying22 hi hz0 hz1 hz2 rfl (by decide) _ k _ rfl (HO2.out.alloc _) ⟨w2.heap.size, 0, none⟩ 1 1 [.slice ko pl kc] rfl rfl ?c1 ?c2 ?c3 ?c4 ?c5 ?_)))
      case c1 =>
        intro j u hu
        match j, hu with
        | 0, hu => simp at hu; subst hu; simp [Addr.add, World.cell?_alloc_new]
      case c2 => intro u hu; simp at hu; subst hu; rfl
      case c3 => unfold maxLen; omega
      case c4 => omega
      case c5 => have := HB.out.size; have := HB2.out.size; simp; omega
      intro v' w3 hown3 hgrow3 hnil
      have hbW : Below w2.heap.size w2 (w2.alloc (Obj.cells #[Value.slice ko pl kc] 28)) := (Below.refl _ _).alloc (Nat.le_refl _) _
      have hoA := HO2.out.alloc (Obj.cells #[Value.slice ko pl kc] 28)
      have hq3 : ∀ q ∈ qs ++ [⟨ko, pl, kc, pz⟩], Own1 w3 q := by
        intro q hq
        rcases List.mem_append.1 hq with hq | hq
        · exact (((HQO.out q hq).below HB2.out).below hbW).grown (by decide) hoA hgrow3
        · simp only [List.mem_singleton] at hq
          rw [hq]
          exact (HQ2.out.below hbW).grown (by decide) hoA hgrow3
      have b1 := HB.out.trans (HB2.out.mono HB.out.size)
      have HB3 := Lib.hid (Below.grown (b1.trans (hbW.mono b1.size)) hgrow3 (by have := b1.size; simp; omega) (own_ge HO2.out))
      have HQ3 := Lib.hid hq3; have HO3 := Lib.hid hown3
      clear hown3 hgrow3 hnil hbW hq3 b1 hoA
      go_wp2
      go_roundw
      case rel => exact ⟨k + 1, qs ++ [⟨ko, pl, kc, pz⟩], by omega, by go_num, by simp [HQL.out], by rw [HTK.out, List.map_append, HQZ.out]; rfl, by rw [List.map_append]; exact HO3.out, HQ3.out, HB3.out⟩
      case measure => simp [intOf]; omega
    · obtain rfl : k = n := by omega
      rw [List.take_of_length_le (by rw [HL.out]; exact Nat.le_refl _)] at hqz
      obtain ⟨ko, kc, rfl, hps, h1, h2, h4⟩ := ps_of_owns hql hown hqo
      have HE : Hid (TwinsPost w k ps (.returned (.slice ko k kc)) wr) := ⟨ko, kc, qs, rfl, hql, hqz, hps, h1, h2, h4, hB⟩
      clear hql hown hqo hqz hps h1 h2 h4 hB HQZ HOWN
      go_wp2
      go_ret
      exact HE.out
theorem twins_zero (ao : Option Addr) (cap : Nat) (w : World) : Calls Tryd.prog 9 #[.slice ao 0 cap] w fun e w' => e = .returned (.slice none 0 0) ∧ w = w' := by
  go_enter Tryd.func9, Tryd.ntmps9
  go_wp2
  refine wp_loop_rounds 1 ?_
  rw [rounds_succ]
  go_wp2
  go_ret
  exact ⟨rfl, rfl⟩
/-- TwinRows. -/
theorem twins_any (ao : Option Addr) (n cap : Nat) (ps : List Part) (w : World) (hl : ps.length = n) (hm : n ≤ 1000) (h : Ps w ao ps) (h3 : ∀ r, (h : r < ps.length) → ps[r].l ≤ 1000000) :
    Calls Tryd.prog 9 #[.slice ao n cap] w (TwinsPost w n ps) := by
  rcases h with rfl | ⟨b, o, rfl, hc⟩
  · obtain rfl : n = 0 := hl.symm
    refine (twins_zero ao cap w).mono ?_
    rintro e w' ⟨rfl, rfl⟩
    exact ⟨none, 0, [], rfl, rfl, rfl, Ps.nil _ _, Nat.le_refl _, Nat.zero_le _, fun _ => rfl, Below.refl _ _⟩
  · exact twins_some b o n cap ps w hl hm hc h3
/-- THE COMPARISON OF ROWS that read alike. -/
theorem rows_eq (a b : Option Addr) (n ca cb : Nat) (ps qs : List Part) (w : World) (hp : ps.length = n) (hq : qs.length = n) (hm : n ≤ maxLen) (h1 : Ps w a ps) (h2 : Ps w b qs) (hz : ps.map (·.z) = qs.map (·.z)) :
    Calls Tryd.prog 13 #[.slice a n ca, .slice b n cb] w fun e w' => e = .returned (.bool true) ∧ ∃ q, w' = w.drewN q := by
  unfold maxLen at hm
  have H1 := Lib.hid h1; have H2 := Lib.hid h2; have HP := Lib.hid hp; have HQ := Lib.hid hq; have HZ := Lib.hid hz
  have d0 : ((n : Int) != n) = false := by simp
  clear h1 h2 hp hq hz
  go_enter Tryd.func13, Tryd.ntmps13
  go_wp2
  go_loopw [5] (fun i wr => ∃ k q : Nat, k ≤ n ∧ i = .int .i64 k ∧ wr = w.drewN q) (fun i _ => n - (intOf i).toNat)
  case atStart => exact ⟨0, 0, Nat.zero_le _, rfl, rfl⟩
  case round =>
    obtain ⟨k, q, hk, rfl, hw⟩ := hrel
    have HW := Lib.hid hw
    by_cases hlt : k < n
    · have lp : k < ps.length := by rw [HP.out]; exact hlt
      have lq : k < qs.length := by rw [HQ.out]; exact hlt
      have hzk : ps[k].z = qs[k].z := by
        have := congrArg (fun l => l[k]?) HZ.out
        simpa [lp, lq] using this
      rcases H1.out with h | ⟨b1, o1, rfl, c1⟩
      · rw [h] at lp; simp at lp
      rcases H2.out with h | ⟨b2, o2, rfl, c2⟩
      · rw [h] at lq; simp at lq
      obtain ⟨g1, k1⟩ := c1 k lp
      obtain ⟨g2, k2⟩ := c2 k lq
      generalize ps[k] = p at g1 k1 hzk
      generalize qs[k] = p' at g2 k2 hzk
      obtain ⟨pa, pl, pc, pz⟩ := p
      obtain ⟨qa, ql, qc, qz⟩ := p'
      simp only at g1 g2 hzk
      subst hzk
      have g1' : wr.cell? ⟨b1, o1 + k, none⟩ = some (.slice pa pl pc) := by rw [hw]; exact g1
      have g2' : wr.cell? ⟨b2, o2 + k, none⟩ = some (.slice qa ql qc) := by rw [hw]; exact g2
      have HBC : Hid (∀ V : World, (∀ a, V.cell? a = w.cell? a) → Calls Tryd.prog 15 #[.slice pa pl pc, .slice qa ql qc] V fun e w' => e = .returned (.bool true) ∧ ∃ q, w' = V.drewN q) := fun V hV => by
        have := bytes_cmp pa qa pl ql pc qc pz pz V k1.len k2.len k1.small (k1.rd.congr hV) (k2.rd.congr hV)
        rwa [decide_eq_true rfl] at this
      have hcw : Hid (∀ a, wr.cell? a = w.cell? a) := fun a => by rw [hw]; rfl
      clear c1 c2 g1 g2 k1 k2 hw lp lq
      go_wp2
      go_quiet ((go_at_call 15; exact Calls.quiet_of (HBC.out _ (fun a => hcw.out a))))
      go_wp2
      go_roundw
      case rel => exact ⟨k + 1, q + nq, by omega, by go_num, by rw [HW.out, World.drewN_drewN]⟩
      case measure => simp [intOf]; omega
    · obtain rfl : k = n := by omega
      clear hw
      go_wp2
      go_ret
      exact ⟨rfl, q, HW.out⟩

end Go.Proofs.YtdpnkdliibccjaaDoor
