/-
  Parts; the twin, the comparison of bytes and of rows.
-/
import Derived.Test.YtcldfnnnjmhkjaaChunked
import Derived.Test.YtcldfnnnjmhkjaaWhole
namespace Go.Proofs.Ytcldfnnnjmhkjaa
open Go.RowKit
set_option linter.unusedVariables false

/-- A part: where its bytes lie, how many, of how much room, which. -/
structure Part where
  a : Option Addr
  l : Nat
  c : Nat
  z : List Int
/-- It is there. -/
structure Part.ok (w : World) (p : Part) : Prop where
  rd : Rd w p.a p.z
  len : p.z.length = p.l
  bts : Bts p.z
  small : p.l ≤ maxLen
  nil : p.a = none → p.c = 0
theorem Part.ok.below {w w' : World} {p : Part} (h : p.ok w) (hB : Below w.heap.size w w') : p.ok w' := ⟨h.rd.below hB, h.len, h.bts, h.small, h.nil⟩
/-- THE PARTS ps LIE AT ao. -/
def Ps (w : World) (ao : Option Addr) (ps : List Part) : Prop :=
  ps = [] ∨ ∃ b o, ao = some ⟨b, o, none⟩ ∧ ∀ r, (h : r < ps.length) → w.cell? ⟨b, o + r, none⟩ = some (.slice ps[r].a ps[r].l ps[r].c) ∧ ps[r].ok w
theorem Ps.nil (w : World) (ao : Option Addr) : Ps w ao [] := .inl rfl
theorem Ps.below {w w' : World} {ao : Option Addr} {ps : List Part} (h : Ps w ao ps) (hB : Below w.heap.size w w') : Ps w' ao ps := by
  rcases h with h | ⟨b, o, ha, hc⟩
  · exact .inl h
  · exact .inr ⟨b, o, ha, fun r hr => ⟨by rw [hB.cell (cell_lt (hc r hr).1)]; exact (hc r hr).1, (hc r hr).2.below hB⟩⟩
/-- All bytes, one behind the other. -/
def flat (ps : List Part) : List Int := ps.flatMap (·.z)
/-- A row of bytes, just made. -/
theorem part_new (w : World) (zs : List Int) (t : Nat) (fr : Nat × Nat) (hz : Bts zs) (hm : zs.length ≤ maxLen) : Part.ok (w.alloc (.cells (zs.map (Value.int .u8)).toArray t fr)) ⟨some ⟨w.heap.size, 0, none⟩, zs.length, zs.length, zs⟩ :=
  ⟨.inr ⟨w.heap.size, 0, rfl, fun j hj => by rw [Nat.zero_add, World.cell?_alloc_mark]; simp only at hj; simp [List.getD, hj]⟩, rfl, hz, hm, fun h => by cases h⟩
def Part.v (p : Part) : Value := .slice p.a p.l p.c
/-- The bytes zs lie in a row that is owned from base on. -/
def Ow (w : World) (base : Nat) (ao : Option Addr) (n cap : Nat) (zs : List Int) : Prop :=
  zs.length = n ∧ n ≤ cap ∧ cap ≤ maxLen ∧ w.ownsRow base 5 1 (.slice ao n cap) n (zs.map (Value.int .u8))
theorem Ow.rd {w : World} {base : Nat} {ao : Option Addr} {n cap : Nat} {zs : List Int} (h : Ow w base ao n cap zs) : Rd w ao zs := by
  obtain ⟨h1, h2, h3, h4⟩ := h
  rcases h4.2 with ⟨q, hn⟩ | ⟨g, c, cur, q, _⟩
  · exact .inl (List.eq_nil_of_length_eq_zero (by omega))
  · simp only [Value.slice.injEq] at q
    obtain ⟨rfl, _, rfl⟩ := q
    exact Rd.of_owns h4
theorem owns_base {w : World} {base base' e n : Nat} {v : Value} {xs : List Value} (h : w.ownsRow base e 1 v n xs) (hb : base' ≤ base) : w.ownsRow base' e 1 v n xs := by
  obtain ⟨h1, h2⟩ := h
  refine ⟨h1, ?_⟩
  rcases h2 with h2 | ⟨g, cap, cur, q1, q2, q3⟩
  · exact .inl h2
  · exact .inr ⟨g, cap, cur, q1, by omega, q3⟩
theorem Ow.below {w w' : World} {base : Nat} {ao : Option Addr} {n cap : Nat} {zs : List Int} (h : Ow w base ao n cap zs) (hB : Below w.heap.size w w') : Ow w' base ao n cap zs :=
  ⟨h.1, h.2.1, h.2.2.1, owns_below h.2.2.2 hB⟩
theorem Ow.of {w : World} {base n : Nat} {v : Value} {zs : List Int} (hl : zs.length = n) (h : w.ownsRow base 5 1 v n (zs.map (Value.int .u8))) : ∃ ao cap, v = .slice ao n cap ∧ Ow w base ao n cap zs := by
  rcases h.2 with ⟨q, hn⟩ | ⟨g, c, cur, q, _, _, q1, q2, _⟩
  · subst q; subst hn
    exact ⟨none, 0, rfl, hl, Nat.le_refl _, Nat.zero_le _, h⟩
  · subst q
    exact ⟨_, c, rfl, hl, q1, q2, h⟩
/-- An owned row is nil and empty, or lies at a block's head. -/
theorem Ow.at {w : World} {base : Nat} {ao : Option Addr} {n cap : Nat} {zs : List Int} (h : Ow w base ao n cap zs) (h0 : 0 < n) : ∃ g, ao = some ⟨g, 0, none⟩ ∧ base ≤ g := by
  rcases h.2.2.2.2 with ⟨_, hn⟩ | ⟨g, c, cur, q, hg, _⟩
  · exact absurd hn (by omega)
  · simp only [Value.slice.injEq] at q
    exact ⟨g, q.1, hg⟩
theorem Ow.nil {w : World} {base n cap : Nat} {ao : Option Addr} {zs : List Int} (h : Ow w base ao n cap zs) (hn : ao = none) : cap = 0 := by
  rcases h.2.2.2.2 with ⟨q, _⟩ | ⟨g, c, cur, q, _⟩
  · simp only [Value.slice.injEq] at q; exact q.2.2
  · simp only [Value.slice.injEq] at q; rw [hn] at q; cases q.1
theorem Ow.part {w : World} {base n cap : Nat} {ao : Option Addr} {zs : List Int} (h : Ow w base ao n cap zs) (hz : Bts zs) : Part.ok w ⟨ao, n, cap, zs⟩ :=
  ⟨h.rd, h.1, hz, Nat.le_trans h.2.1 h.2.2.1, h.nil⟩
/-- What Twin leaves. -/
def R1 (w : World) (n : Nat) (zs : List Int) (e : Ending) (w' : World) : Prop :=
  ∃ ko kc, e = .returned (.slice ko n kc) ∧ Ow w' w.heap.size ko n kc zs ∧ Below w.heap.size w w'
theorem twin_nil (w : World) : Calls Try.prog 13 #[.slice none 0 0] w fun e w' => e = .returned (.slice none 0 0) ∧ w = w' := by
  go_enter Try.func13, Try.ntmps13
  go_wp2
  go_ret
  exact ⟨rfl, rfl⟩
theorem twin_some (ad : Addr) (n cap : Nat) (zs : List Int) (w : World) (hl : zs.length = n) (hm : n ≤ 1000000) (h : Rd w (some ad) zs) :
    Calls Try.prog 13 #[.slice (some ad) n cap] w (R1 w n zs) := by
  obtain ⟨i0, hi, hz0, hz1, hz2⟩ := info_parts Try.info5
  have H := Lib.hid h; have HL := Lib.hid hl
  have HO : Hid (w.ownsRow w.heap.size 5 1 (.slice none 0 0) 0 []) := World.ownsRow_nil _ _ _ _
  clear h hl
  go_enter Try.func13, Try.ntmps13
  go_wp2_with (at_builtin; refine wpList_append_own _ rfl (.tmp 4) (.tmp 5) 22 rfl w.heap.size 5 i0 (.int .u8 0) 1 1 Try.underlying22 hi hz0 hz1 hz2 rfl (by decide) _ 0 _ rfl HO.out ad n cap (zs.map (.int .u8)) rfl ?c0 ?c1 ?c2 ?c3 ?c4 ?c5 ?_)
  case c0 => simp [HL.out]
  case c1 => exact H.out.cells _ rfl
  case c2 => exact ints_oneCell _ _
  case c3 => unfold maxLen; omega
  case c4 => omega
  case c5 => exact Nat.le_refl _
  intro v' w1 hown1 hgrow1 hnil
  have HB1 := Lib.hid (Below.grown (Below.refl _ _) hgrow1 (Nat.le_refl _) (fun k h => by cases h))
  have hv := Ow.of HL.out (by simpa using hown1)
  obtain ⟨ko, kc, hv, how⟩ := hv
  rw [hv]
  have HOW := Lib.hid how
  clear how hown1 hgrow1 hnil hv
  go_wp2
  go_ret
  exact ⟨ko, kc, rfl, HOW.out, HB1.out⟩
theorem twin_any (ao : Option Addr) (n cap : Nat) (zs : List Int) (w : World) (hl : zs.length = n) (hm : n ≤ 1000000) (h : Rd w ao zs) (hn : ao = none → cap = 0) :
    Calls Try.prog 13 #[.slice ao n cap] w (R1 w n zs) := by
  cases ao with
  | some ad => exact twin_some ad n cap zs w hl hm h
  | none =>
    obtain rfl := hn rfl
    have hz : zs = [] := by
      rcases h with h | ⟨b, o, h, _⟩
      · exact h
      · cases h
    subst hz
    obtain rfl : n = 0 := hl.symm
    refine (twin_nil w).mono ?_
    rintro e w' ⟨rfl, rfl⟩
    exact ⟨none, 0, rfl, ⟨rfl, Nat.le_refl _, Nat.zero_le _, World.ownsRow_nil _ _ _ _⟩, Below.refl _ _⟩
theorem ne_of_len {xs ys : List Int} (h : xs.length ≠ ys.length) : decide (xs = ys) = false := decide_eq_false (fun e => h (by rw [e]))
/-- THE COMPARISON OF BYTES: it only reads. -/
theorem bytes_cmp (a b : Option Addr) (n m ca cb : Nat) (xs ys : List Int) (w : World) (hx : xs.length = n) (hy : ys.length = m) (hm : n ≤ maxLen) (h1 : Rd w a xs) (h2 : Rd w b ys) :
    Calls Try.prog 20 #[.slice a n ca, .slice b m cb] w fun e w' => e = .returned (.bool (decide (xs = ys))) ∧ ∃ q, w' = w.drewN q := by
  unfold maxLen at hm
  by_cases hnm : n = m
  · subst hnm
    obtain ⟨r, hr⟩ : ∃ r, r = decide (xs = ys) := ⟨_, rfl⟩
    rw [← hr]
    have HR := Lib.hid hr; have H1 := Lib.hid h1; have H2 := Lib.hid h2; have HX := Lib.hid hx; have HY := Lib.hid hy
    have d0 : ((n : Int) != n) = false := by simp
    clear hr h1 h2 hx hy
    go_enter Try.func20, Try.ntmps20
    go_wp2
    go_loopw [5] (fun i wr => ∃ k q : Nat, k ≤ n ∧ i = .int .i64 k ∧ wr = w.drewN q ∧ xs.take k = ys.take k) (fun i _ => n - (intOf i).toNat)
    case atStart => exact ⟨0, 0, Nat.zero_le _, rfl, rfl, rfl⟩
    case round =>
      obtain ⟨k, q, hk, rfl, hw, ht⟩ := hrel
      have HW := Lib.hid hw; have HT := Lib.hid ht
      by_cases hlt : k < n
      · obtain ⟨b1, o1, rfl, c1⟩ := H1.out.at (by rw [HX.out]; omega)
        obtain ⟨b2, o2, rfl, c2⟩ := H2.out.at (by rw [HY.out]; omega)
        have g1 : wr.cell? ⟨b1, o1 + k, none⟩ = some (.int .u8 (xs.getD k 0)) := by rw [hw]; exact c1 k (by rw [HX.out]; exact hlt)
        have g2 : wr.cell? ⟨b2, o2 + k, none⟩ = some (.int .u8 (ys.getD k 0)) := by rw [hw]; exact c2 k (by rw [HY.out]; exact hlt)
        obtain ⟨c, hc⟩ : ∃ c, c = xs.getD k 0 := ⟨_, rfl⟩
        obtain ⟨d, hd⟩ : ∃ d, d = ys.getD k 0 := ⟨_, rfl⟩
        rw [← hc] at g1; rw [← hd] at g2
        have HC := Lib.hid hc; have HD := Lib.hid hd
        clear c1 c2 hc hd hw ht
        have lx : k < xs.length := by rw [HX.out]; exact hlt
        have ly : k < ys.length := by rw [HY.out]; exact hlt
        by_cases hcd : c = d
        · subst hcd
          have d1 : (c != c) = false := by simp
          have HS : Hid (xs.take (k + 1) = ys.take (k + 1)) := by
            show _ = _
            rw [List.take_succ_eq_append_getElem lx, List.take_succ_eq_append_getElem ly, HT.out]
            have e1 := HC.out; have e2 := HD.out
            simp only [List.getD, List.getElem?_eq_getElem lx, List.getElem?_eq_getElem ly, Option.getD_some] at e1 e2
            rw [← e1, ← e2]
          go_wp2
          go_quiet (fail)
          go_wp2
          go_roundw
          case rel => exact ⟨k + 1, q + nq, by omega, by go_num, by rw [HW.out, World.drewN_drewN], HS.out⟩
          case measure => simp [intOf]; omega
        · have d1 : (c != d) = true := by simp [hcd]
          have hne : r = false := by
            rw [HR.out]
            refine decide_eq_false (fun e => hcd ?_)
            rw [HC.out, HD.out, e]
          subst hne
          clear hcd lx ly
          go_wp2
          go_quiet (fail)
          go_wp2
          go_ret
          exact ⟨rfl, q + nq, by rw [HW.out, World.drewN_drewN]⟩
      · obtain rfl : k = n := by omega
        have ht' : r = true := by
          rw [HR.out]
          rw [List.take_of_length_le (by rw [HX.out]; exact Nat.le_refl _), List.take_of_length_le (by rw [HY.out]; exact Nat.le_refl _)] at ht
          exact decide_eq_true ht
        subst ht'
        clear hw ht
        go_wp2
        go_ret
        exact ⟨rfl, q, HW.out⟩
  · have hne : decide (xs = ys) = false := ne_of_len (by omega)
    rw [hne]
    have d0 : ((n : Int) != m) = true := by simp; omega
    clear hne hx hy h1 h2
    go_enter Try.func20, Try.ntmps20
    go_wp2
    go_ret
    exact ⟨rfl, 0, rfl⟩
theorem Rd.congr {V W : World} {ao : Option Addr} {zs : List Int} (h : Rd W ao zs) (hc : ∀ a, V.cell? a = W.cell? a) : Rd V ao zs := by
  rcases h with h | ⟨b, o, ha, hr⟩
  · exact .inl h
  · exact .inr ⟨b, o, ha, fun j hj => by rw [hc]; exact hr j hj⟩
theorem Part.ok.congr {V W : World} {p : Part} (h : p.ok W) (hc : ∀ a, V.cell? a = W.cell? a) : p.ok V := ⟨h.rd.congr hc, h.len, h.bts, h.small, h.nil⟩
theorem Ps.congr {V W : World} {ao : Option Addr} {ps : List Part} (h : Ps W ao ps) (hc : ∀ a, V.cell? a = W.cell? a) : Ps V ao ps := by
  rcases h with h | ⟨b, o, ha, hr⟩
  · exact .inl h
  · exact .inr ⟨b, o, ha, fun r hr' => ⟨by rw [hc]; exact (hr r hr').1, (hr r hr').2.congr hc⟩⟩
theorem Part.ok.take {w : World} {a : Option Addr} {n c : Nat} {z : List Int} (h : Part.ok w ⟨a, n, c, z⟩) (k : Nat) (hk : k ≤ n) : Part.ok w ⟨a, k, c, z.take k⟩ :=
  ⟨h.rd.take k, by have := h.len; simp at this ⊢; omega, h.bts.take k, Nat.le_trans hk h.small, h.nil⟩
theorem Part.ok.drop {w : World} {b o n c k : Nat} {z : List Int} (h : Part.ok w ⟨some ⟨b, o, none⟩, n, c, z⟩) (c' : Nat) (hk : k ≤ n) : Part.ok w ⟨some ⟨b, o + k, none⟩, n - k, c', z.drop k⟩ :=
  ⟨h.rd.drop k, by have := h.len; simp at this ⊢; omega, h.bts.drop k, Nat.le_trans (Nat.sub_le _ _) h.small, fun h => by cases h⟩
theorem Part.ok.empty (w : World) (a : Option Addr) (c : Nat) (h : a = none → c = 0) : Part.ok w ⟨a, 0, c, []⟩ := ⟨Rd.nil _ _, rfl, Bts.nil, Nat.zero_le _, h⟩
/-- What is left from k on: at the end of its room a slice keeps its address. -/
theorem Part.ok.rest {w : World} {b n c k : Nat} {z : List Int} (h : Part.ok w ⟨some ⟨b, 0, none⟩, n, c, z⟩) (hk : k ≤ n) (hc : n ≤ c) : Part.ok w ⟨if c = k then some ⟨b, 0, none⟩ else some ⟨b, k, none⟩, n - k, c - k, z.drop k⟩ := by
  by_cases e : c = k
  · rw [if_pos e]
    have hz : z.drop k = [] := List.drop_of_length_le (by have := h.len; simp at this; omega)
    have hn : n - k = 0 := by omega
    rw [hz, hn]
    exact Part.ok.empty _ _ _ (fun h => by cases h)
  · rw [if_neg e]
    have := h.drop (c - k) hk
    rwa [Nat.zero_add] at this
theorem flat_take (ps : List Part) (k : Nat) (hk : k < ps.length) : flat (ps.take (k + 1)) = flat (ps.take k) ++ ps[k].z := by
  rw [List.take_succ_eq_append_getElem hk]; simp only [flat, List.flatMap_append, List.flatMap_cons, List.flatMap_nil, List.append_nil]
theorem flat_len (ps : List Part) (m : Nat) (h : ∀ r, (h : r < ps.length) → (ps[r].z).length ≤ m) : ∀ k, k ≤ ps.length → (flat (ps.take k)).length ≤ k * m
  | 0, _ => by simp [flat]
  | k + 1, hk => by
    have h1 := flat_len ps m h k (by omega)
    have h2 := h k (by omega)
    rw [flat_take ps k (by omega), List.length_append, Nat.add_mul, Nat.one_mul]; omega
theorem flat_bts (ps : List Part) (h : ∀ p ∈ ps, Bts p.z) : Bts (flat ps) := by
  induction ps with
  | nil => exact Bts.nil
  | cons p ps ih =>
    show Bts (p.z ++ flat ps)
    exact (h p (by simp)).append (ih (fun q hq => h q (by simp [hq])))
theorem Ps.mem {w : World} {ao : Option Addr} {ps : List Part} (h : Ps w ao ps) : ∀ p ∈ ps, p.ok w := by
  rcases h with rfl | ⟨b, o, _, hc⟩
  · intro p hp; cases hp
  · intro p hp
    obtain ⟨i, hi, rfl⟩ := List.mem_iff_getElem.1 hp
    exact (hc i hi).2
/-- A part that lies in a row of bytes of its own. -/
def Own1 (w : World) (q : Part) : Prop := q.ok w ∧ (q.a = none ∨ ∃ g cur, q.a = some ⟨g, 0, none⟩ ∧ w.heap[g]? = some (.cells cur 5 (0, 0)))
theorem Own1.of_ow {w : World} {base n cap : Nat} {ao : Option Addr} {zs : List Int} (h : Ow w base ao n cap zs) (hz : Bts zs) : Own1 w ⟨ao, n, cap, zs⟩ := by
  refine ⟨h.part hz, ?_⟩
  rcases h.2.2.2.2 with ⟨q, _⟩ | ⟨g, c, cur, q, _, hg, _⟩
  · simp only [Value.slice.injEq] at q; exact .inl q.1
  · simp only [Value.slice.injEq] at q; exact .inr ⟨g, cur, q.1, hg⟩
theorem Own1.below {w w' : World} {q : Part} (h : Own1 w q) (hB : Below w.heap.size w w') : Own1 w' q := by
  refine ⟨h.1.below hB, ?_⟩
  rcases h.2 with h2 | ⟨g, cur, h2, h3⟩
  · exact .inl h2
  · exact .inr ⟨g, cur, h2, by rw [hB.block g (Array.getElem?_eq_some_iff.1 h3).1, h3]⟩
theorem Own1.grown {w w' : World} {q : Part} {base n e : Nat} {v : Value} {xs : List Value} (he : e ≠ 5) (h : Own1 w q) (ho : w.ownsRow base e 1 v n xs) (hg : w.grownBy w' v.ownBlock) : Own1 w' q := by
  rcases h.2 with h2 | ⟨g, cur, h2, h3⟩
  · have hz : q.z = [] := by
      rcases h.1.rd with h4 | ⟨b, o, h4, _⟩
      · exact h4
      · rw [h2] at h4; cases h4
    exact ⟨⟨.inl hz, h.1.len, h.1.bts, h.1.small, h.1.nil⟩, .inl h2⟩
  · have hlt := (Array.getElem?_eq_some_iff.1 h3).1
    have hne : some g ≠ v.ownBlock := by
      intro e'
      rcases ho.2 with ⟨q', _⟩ | ⟨g', cap, cur', q1, q2, q3, q4⟩
      · subst q'; cases e'
      · subst q1
        cases e'
        rw [q3] at h3
        simp only [Option.some.injEq, Obj.cells.injEq] at h3
        exact he h3.2.1
    have hb := hg.block g hlt hne
    refine ⟨⟨?_, h.1.len, h.1.bts, h.1.small, h.1.nil⟩, .inr ⟨g, cur, h2, by rw [hb, h3]⟩⟩
    rcases h.1.rd with h4 | ⟨b, o, ha, hc⟩
    · exact .inl h4
    · rw [h2] at ha
      cases ha
      exact .inr ⟨g, 0, h2, fun j hj => by rw [← hc j hj]; exact World.cell?_of_block hb⟩
theorem flat_eq (ps : List Part) : flat ps = (ps.map (·.z)).flatten := by simp [flat, List.flatMap_def]
theorem flat_of {ps qs : List Part} (h : qs.map (·.z) = ps.map (·.z)) : flat qs = flat ps := by rw [flat_eq, flat_eq, h]
theorem ps_of_owns {w : World} {base n : Nat} {v : Value} {qs : List Part} (hl : qs.length = n) (h : w.ownsRow base 22 1 v n (qs.map Part.v)) (hq : ∀ q ∈ qs, Own1 w q) :
    ∃ ko kc, v = .slice ko n kc ∧ Ps w ko qs ∧ n ≤ kc ∧ kc ≤ maxLen ∧ (ko = none → kc = 0) := by
  rcases h.2 with ⟨q, hn⟩ | ⟨g, c, cur, q, _, _, q1, q2, _⟩
  · subst q; subst hn
    exact ⟨none, 0, rfl, .inl (List.eq_nil_of_length_eq_zero hl), Nat.le_refl _, Nat.zero_le _, fun _ => rfl⟩
  · subst q
    refine ⟨_, c, rfl, .inr ⟨g, 0, rfl, fun r hr => ⟨?_, (hq _ (List.getElem_mem hr)).1⟩⟩, q1, q2, fun h => by cases h⟩
    rw [Nat.zero_add, h.cellAt r (by omega)]
    simp [hr, Part.v]
/-- THE COMPARISON OF ROWS that read alike. -/
theorem rows_eq (a b : Option Addr) (n ca cb : Nat) (ps qs : List Part) (w : World) (hp : ps.length = n) (hq : qs.length = n) (hm : n ≤ maxLen) (h1 : Ps w a ps) (h2 : Ps w b qs) (hz : ps.map (·.z) = qs.map (·.z)) :
    Calls Try.prog 15 #[.slice a n ca, .slice b n cb] w fun e w' => e = .returned (.bool true) ∧ ∃ q, w' = w.drewN q := by
  unfold maxLen at hm
  have H1 := Lib.hid h1; have H2 := Lib.hid h2; have HP := Lib.hid hp; have HQ := Lib.hid hq; have HZ := Lib.hid hz
  have d0 : ((n : Int) != n) = false := by simp
  clear h1 h2 hp hq hz
  go_enter Try.func15, Try.ntmps15
  go_wp2
  go_loopw [5] (fun i wr => ∃ k q : Nat, k ≤ n ∧ i = .int .i64 k ∧ wr = w.drewN q) (fun i _ => n - (intOf i).toNat)
  case atStart => exact ⟨0, 0, Nat.zero_le _, rfl, rfl⟩
  case round =>
    obtain ⟨k, q, hk, rfl, hw⟩ := hrel
    have HW := Lib.hid hw
    by_cases hlt : k < n
    · have lp : k < ps.length := by rw [HP.out]; exact hlt
      have lq : k < qs.length := by rw [HQ.out]; exact hlt
      have hzk : ps[k].z = qs[k].z := by
        have := congrArg (fun l => l[k]?) HZ.out
        simpa [lp, lq] using this
      rcases H1.out with h | ⟨b1, o1, rfl, c1⟩
      · rw [h] at lp; simp at lp
      rcases H2.out with h | ⟨b2, o2, rfl, c2⟩
      · rw [h] at lq; simp at lq
      obtain ⟨g1, k1⟩ := c1 k lp
      obtain ⟨g2, k2⟩ := c2 k lq
      generalize ps[k] = p at g1 k1 hzk
      generalize qs[k] = p' at g2 k2 hzk
      obtain ⟨pa, pl, pc, pz⟩ := p
      obtain ⟨qa, ql, qc, qz⟩ := p'
      simp only at g1 g2 hzk
      subst hzk
      have g1' : wr.cell? ⟨b1, o1 + k, none⟩ = some (.slice pa pl pc) := by rw [hw]; exact g1
      have g2' : wr.cell? ⟨b2, o2 + k, none⟩ = some (.slice qa ql qc) := by rw [hw]; exact g2
      have HBC : Hid (∀ V : World, (∀ a, V.cell? a = w.cell? a) → Calls Try.prog 20 #[.slice pa pl pc, .slice qa ql qc] V fun e w' => e = .returned (.bool true) ∧ ∃ q, w' = V.drewN q) := fun V hV => by
        have := bytes_cmp pa qa pl ql pc qc pz pz V k1.len k2.len k1.small (k1.rd.congr hV) (k2.rd.congr hV)
        rwa [decide_eq_true rfl] at this
      have hcw : Hid (∀ a, wr.cell? a = w.cell? a) := fun a => by rw [hw]; rfl
      clear c1 c2 g1 g2 k1 k2 hw lp lq
      go_wp2
      go_quiet ((go_at_call 20; exact Calls.quiet_of (HBC.out _ (fun a => hcw.out a))))
      go_wp2
      go_roundw
      case rel => exact ⟨k + 1, q + nq, by omega, by go_num, by rw [HW.out, World.drewN_drewN]⟩
      case measure => simp [intOf]; omega
    · obtain rfl : k = n := by omega
      clear hw
      go_wp2
      go_ret
      exact ⟨rfl, q, HW.out⟩

end Go.Proofs.Ytcldfnnnjmhkjaa
