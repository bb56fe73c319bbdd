/-
  The drive: rows of numbers; files one behind the other.
-/
import Derived.Test.YtmcbmemgeegodaaDr8
namespace Go.Proofs.Ytmcbmemgeegodaa
open Go.RowKit
set_option linter.unusedVariables false

/-- THE NUMBERS zs LIE AT ao. -/
def Ni (w : World) (ao : Option Addr) (zs : List Int) : Prop :=
  zs = [] ∨ ∃ b o, ao = some ⟨b, o, none⟩ ∧ ∀ j, j < zs.length → w.cell? ⟨b, o + j, none⟩ = some (.int .i64 (zs.getD j 0))
theorem Ni.at {w : World} {ao : Option Addr} {zs : List Int} (h : Ni w ao zs) {j : Nat} (hj : j < zs.length) : ∃ b o, ao = some ⟨b, o, none⟩ ∧ w.cell? ⟨b, o + j, none⟩ = some (.int .i64 (zs.getD j 0)) := by
  rcases h with h | ⟨b, o, ha, hc⟩
  · rw [h] at hj; exact absurd hj (Nat.not_lt_zero _)
  · exact ⟨b, o, ha, hc j hj⟩
theorem Ni.below {w w' : World} {ao : Option Addr} {zs : List Int} (h : Ni w ao zs) (hB : Below w.heap.size w w') : Ni w' ao zs := by
  rcases h with h | ⟨b, o, ha, hc⟩
  · exact .inl h
  · exact .inr ⟨b, o, ha, fun j hj => by rw [hB.cell (cell_lt (hc j hj))]; exact hc j hj⟩
theorem IsRow.ni {w : World} {a : Option Addr} {len cap : Nat} {zs : List Int} (h : IsRow .i64 w a len cap zs) : ∃ l, l.length = len ∧ Ni w a l := by
  rcases h with ⟨rfl, rfl, rfl, rfl⟩ | ⟨x, rfl, h1, h2, h3, h4, h5⟩
  · exact ⟨[], rfl, .inl rfl⟩
  · refine ⟨zs.take len, by simp; omega, ?_⟩
    by_cases h0 : len = 0
    · subst h0; exact .inl rfl
    · obtain ⟨b, o, spot⟩ := x
      have hspot : spot = none := by simpa [Addr.add] using World.cell?_spot (h4 0 (by omega))
      subst hspot
      refine .inr ⟨b, o, rfl, fun j hj => ?_⟩
      simp at hj
      rw [← Addr.add_lit, h4 j (by omega)]
      simp [List.getD, show j < len by omega]
/-- THE NUMBERS zs LIE IN A ROW OF THE CALL'S OWN. -/
def On (w : World) (base : Nat) (ko : Option Addr) (n kc : Nat) (zs : List Int) : Prop :=
  zs.length = n ∧ n ≤ kc ∧ kc ≤ maxLen ∧ w.ownsRow base 3 1 (.slice ko n kc) n (zs.map (Value.int .i64))
theorem On.nil (w : World) (base : Nat) : On w base none 0 0 [] := ⟨rfl, Nat.le_refl _, Nat.zero_le _, World.ownsRow_nil _ _ _ _⟩
theorem On.below {w w' : World} {base : Nat} {ko : Option Addr} {n kc : Nat} {zs : List Int} (h : On w base ko n kc zs) (hB : Below w.heap.size w w') : On w' base ko n kc zs := ⟨h.1, h.2.1, h.2.2.1, owns_below h.2.2.2 hB⟩
theorem On.at {w : World} {base : Nat} {ko : Option Addr} {n kc : Nat} {zs : List Int} (h : On w base ko n kc zs) {j : Nat} (hj : j < n) : ∃ g, ko = some ⟨g, 0, none⟩ ∧ base ≤ g ∧ w.cell? ⟨g, j, none⟩ = some (.int .i64 (zs.getD j 0)) := by
  obtain ⟨h1, h2, h3, h4⟩ := h
  rcases h4.2 with ⟨q, hn⟩ | ⟨g, c, cur, q, hb, _⟩
  · omega
  · simp only [Value.slice.injEq] at q
    obtain ⟨rfl, _, rfl⟩ := q
    refine ⟨g, rfl, hb, ?_⟩
    rw [h4.cellAt j (by omega)]
    simp [List.getD, show j < zs.length by omega]
theorem info3 : (Try.prog.info? 3).map (fun i => (i.zero, i.size, i.bytes)) = some (some (.int .i64 0), 1, 8) := by kernel_rfl
theorem append_num {w : World} {ops : Array Oper} {rest : List Oper} {o : Oper} {a : Act} {Q : Exit → Act → World → Prop} (hgd : o.guard = none) (s x : Operand)
    (ho : o.op = .call { callee := .builtin .append, args := #[s, x], argTypes := #[64, 64] })
    (base n kc g : Nat) (ko : Option Addr) (zs : List Int) (y : Int) (hs : a.eval s = .slice ko n kc) (hown : On w base ko n kc zs) (hx : a.eval x = .slice (some ⟨g, 0, none⟩) 1 1)
    (hg : w.heap[g]? = some (.cells #[.int .i64 y] 3))
    (hm : n ≤ 1000000000) (hb : base ≤ w.heap.size)
    (h : ∀ ko' kc' w', On w' base ko' (n + 1) kc' (zs ++ [y]) → Below base w w' → (∀ (j : Nat) (cs : Array Value) (t : Nat) (fr : Nat × Nat), t ≠ 3 → w.heap[j]? = some (Obj.cells cs t fr) → w'.heap[j]? = some (Obj.cells cs t fr)) → wpList Try.prog ops Q rest (a.put o.dst (.slice ko' (n + 1) kc')) w') : wpList Try.prog ops Q (o :: rest) a w := by
  obtain ⟨i0, hi, hz0, hz1, hz2⟩ := info_parts info3
  obtain ⟨h1, h2, h3, h4⟩ := hown
  refine wpList_append_own _ hgd s x 64 ho base 3 i0 (.int .i64 0) 1 8 Try.underlying64 hi hz0 hz1 hz2 rfl (by decide) _ n _ hs h4 ⟨g, 0, none⟩ 1 1 [.int .i64 y] hx rfl ?_ ?_ (by unfold maxLen; omega) (by omega) hb ?_
  · intro j u hj
    rw [Addr.add_lit, Nat.zero_add]
    match j, hj with
    | 0, hj => simp at hj; subst hj; simp [World.cell?, hg]
    | j + 1, hj => simp at hj
  · intro u hu
    simp at hu
    subst hu; rfl
  · intro v' w' ho' hg' _
    rw [show (zs.map (Value.int .i64) ++ [Value.int .i64 y]) = (zs ++ [y]).map (Value.int .i64) by simp] at ho'
    have hv : ∃ ko' kc', v' = .slice ko' (n + 1) kc' ∧ n + 1 ≤ kc' ∧ kc' ≤ maxLen := by
      rcases ho'.2 with ⟨_, h0⟩ | ⟨g', cap', cur, q1, _, _, q4, q5, _⟩
      · omega
      · exact ⟨_, cap', q1, q4, q5⟩
    obtain ⟨ko', kc', rfl, hk1, hk2⟩ := hv
    refine h ko' kc' w' ⟨by simp [h1], hk1, hk2, ho'⟩ (Below.grown (Below.refl _ _) hg' hb (own_ge3 h4)) fun j cs t fr ht hj => ?_
    have hne : some j ≠ (Value.slice ko n kc).ownBlock := by
      intro e'
      rcases h4.2 with ⟨q', _⟩ | ⟨g', cap, cur', q1, q2, q3, q4⟩
      · rw [q'] at e'; cases e'
      · rw [q1] at e'
        cases e'
        rw [q3] at hj
        simp only [Option.some.injEq, Obj.cells.injEq] at hj
        exact ht hj.2.1.symm
    rw [hg'.block j (Array.getElem?_eq_some_iff.1 hj).1 hne]; exact hj


theorem On.kt {S : Nat → Bool} {w w' : World} {base : Nat} {ko : Option Addr} {n kc : Nat} {zs : List Int} (h : On w base ko n kc zs) (hk : KT S none w w') (h3 : S 3 = false) : On w' base ko n kc zs :=
  ⟨h.1, h.2.1, h.2.2.1, own_heapT h.2.2.2 fun g cur hg => (hk.keep _ _ _ _ (fun e => by cases e) h3 hg).trans hg.symm⟩
theorem Dsy.grow {w0 w w' : World} {base Bp g gp : Nat} {T : TD} {P : PP} (h : Dsy w0 w base Bp g gp T P) (hk : KT (fun t => t == 3) none w w') : Dsy w' w' base Bp g gp T P := by
  obtain ⟨ko, n, kc, cs, h⟩ := h
  exact ⟨ko, n, kc, cs, ⟨hk.keep _ _ _ _ (fun e => by cases e) rfl h.d.blk, h.d.own.kt hk rfl rfl, h.d.low.1, h.d.low.2.1, Nat.le_trans h.d.low.2.2 hk.size⟩, h.ks, h.good, h.at_, h.pw.kt hk rfl rfl (fun _ e => by cases e), Below.refl _ _, KT.refl _ _ _⟩

/-- A file: so many blocks, and a mark. -/
def fl (kf : Nat → Nat) (i : Nat) : List Key := ((List.range (kf i)).map fun (j : Nat) => ((1 : Int), [(i : Int), (j : Int)], false)) ++ [(2, [], false)]
/-- The first m files. -/
def CF (kf : Nat → Nat) : Nat → List Key
  | 0 => []
  | m + 1 => CF kf m ++ fl kf m
def st (kf : Nat → Nat) (m : Nat) : Nat := (CF kf m).length
theorem fl_len (kf : Nat → Nat) (i : Nat) : (fl kf i).length = kf i + 1 := by unfold fl; simp
theorem st_succ (kf : Nat → Nat) (m : Nat) : st kf (m + 1) = st kf m + (kf m + 1) := by
  unfold st
  rw [CF, List.length_append, fl_len]
theorem st_mono (kf : Nat → Nat) {a b : Nat} (h : a ≤ b) : st kf a ≤ st kf b := by
  induction b with
  | zero => obtain rfl : a = 0 := by omega
            exact Nat.le_refl _
  | succ b ih =>
    by_cases e : a = b + 1
    · rw [e]; exact Nat.le_refl _
    · rw [st_succ]; have := ih (by omega); omega
theorem st_most (kf : Nat → Nat) (hk : ∀ i, kf i ≤ 9) (m : Nat) : st kf m ≤ 10 * m := by
  induction m with
  | zero => exact Nat.le_refl _
  | succ m ih => rw [st_succ]; have := hk m; omega
theorem CF_take (kf : Nat → Nat) {n m : Nat} (h : n ≤ m) : (CF kf m).take (st kf n) = CF kf n := by
  induction m with
  | zero => obtain rfl : n = 0 := by omega
            rfl
  | succ m ih =>
    by_cases e : n = m + 1
    · subst e; exact List.take_length
    · have := st_mono kf (show n ≤ m by omega)
      rw [CF, List.take_append_of_le_length (by unfold st at this ⊢; exact this)]
      exact ih (by omega)
theorem CF_get (kf : Nat → Nat) {n m j : Nat} (h : n < m) (hj : j < kf n + 1) : (CF kf m)[st kf n + j]? = (fl kf n)[j]? := by
  have h1 : (CF kf m)[st kf n + j]? = ((CF kf m).take (st kf (n + 1)))[st kf n + j]? := by
    rw [List.getElem?_take, if_pos (by rw [st_succ]; omega)]
  rw [h1, CF_take kf (by omega), CF, List.getElem?_append_right (by unfold st; omega)]
  congr 1
  unfold st; omega
theorem fl_blk (kf : Nat → Nat) (i j : Nat) (h : j < kf i) : (fl kf i)[j]? = some (1, [(i : Int), (j : Int)], false) := by
  unfold fl
  rw [List.getElem?_append_left (by simp; exact h)]
  simp [h]
theorem fl_mark (kf : Nat → Nat) (i : Nat) : (fl kf i)[kf i]? = some (2, [], false) := by
  unfold fl
  rw [List.getElem?_append_right (by simp)]
  simp
theorem marks_append (a b : List Key) : marks (a ++ b) = marks a + marks b := by unfold marks; rw [List.filter_append, List.length_append]
theorem marks_fl (kf : Nat → Nat) (i : Nat) : marks (fl kf i) = 1 := by
  unfold fl
  rw [marks_snoc, if_pos rfl]
  have : marks ((List.range (kf i)).map fun (j : Nat) => ((1 : Int), [(i : Int), (j : Int)], false)) = 0 := by
    unfold marks
    rw [List.length_eq_zero_iff, List.filter_eq_nil_iff]
    intro x hx
    obtain ⟨p, _, rfl⟩ := List.mem_map.1 hx
    exact (show ¬ (((1 : Int) == 2) = true) by decide)
  omega
theorem marks_CF (kf : Nat → Nat) (m : Nat) : marks (CF kf m) = m := by
  induction m with
  | zero => rfl
  | succ m ih => rw [CF, marks_append, marks_fl, ih]
theorem fileC_CF (kf : Nat → Nat) {n m : Nat} (h : n < m) : fileC (CF kf m) n = (((st kf n : Nat) : Int), 0) := by
  cases n with
  | zero => rw [fileC_zero]; rfl
  | succ n =>
    have hs := st_succ kf n
    have hlt : st kf n + kf n < (CF kf m).length := by
      have := st_mono kf (show n + 1 ≤ m by omega)
      unfold st at this hs ⊢; omega
    have e1 : st kf n + kf n + 1 = st kf (n + 1) := by omega
    have h1 : marks ((CF kf m).take (st kf n + kf n + 1)) = n + 1 := by rw [e1, CF_take kf (by omega), marks_CF]
    have hg := CF_get kf (m := m) (show n < m by omega) (show kf n < kf n + 1 by omega)
    rw [fl_mark, List.getElem?_eq_getElem hlt] at hg
    have h2 := h1
    rw [List.take_succ_eq_append_getElem hlt, marks_snoc, Option.some.inj hg, if_pos rfl] at h2
    rw [fileC_at _ _ _ hlt h1 h2, ← e1]
    rfl
theorem mkd_CF (kf : Nat → Nat) {n m : Nat} (h : n < m) (b : Nat) (hb : b ≤ kf n) : mkd (CF kf m) (st kf n) (st kf n + b) = false := by
  have hl : st kf n + kf n < (CF kf m).length := by
    have := st_mono kf (show n + 1 ≤ m by omega)
    have hs := st_succ kf n
    unfold st at this hs ⊢; omega
  induction b with
  | zero => exact mkd_self _ _
  | succ b ih =>
    have hlt : st kf n + b < (CF kf m).length := by omega
    have hg := CF_get kf (m := m) h (show b < kf n + 1 by omega)
    rw [fl_blk kf n b (by omega), List.getElem?_eq_getElem hlt] at hg
    rw [← Nat.add_assoc, mkd_succ _ _ _ (by omega) hlt, ih (by omega), Option.some.inj hg]
    rfl
theorem loc_CF (kf : Nat → Nat) {n m : Nat} (h : n < m) (b q : Nat) (p : Int) : TD.loc ⟨p, CF kf m, q⟩ false n b = if b ≤ kf n then (0, st kf n + b) else (8, q) := by
  have hl : st kf n + kf n < (CF kf m).length := by
    have := st_mono kf (show n + 1 ≤ m by omega)
    have hs := st_succ kf n
    unfold st at this hs ⊢; omega
  unfold TD.loc
  rw [if_neg (by decide), if_neg (by omega)]
  simp only [Int.toNat_natCast]
  rw [fileC_CF kf h]
  simp only [Int.toNat_natCast]
  rw [if_neg (by decide)]
  by_cases hb : b ≤ kf n
  · rw [if_neg (by omega), if_neg (by rw [mkd_CF kf h b hb]; decide), if_pos hb]
  · rw [if_neg hb]
    by_cases hb2 : (CF kf m).length < st kf n + b
    · rw [if_pos hb2]
    · rw [if_neg hb2]
      have hg := CF_get kf (m := m) h (show kf n < kf n + 1 by omega)
      rw [fl_mark, List.getElem?_eq_getElem hl] at hg
      have h1 : mkd (CF kf m) (st kf n) (st kf n + kf n + 1) = true := by
        rw [mkd_succ _ _ _ (by omega) hl, Option.some.inj hg]; simp
      rw [if_pos (mkd_mono _ _ _ _ (by omega) (by omega) (by omega) h1)]
theorem rd_CF (kf : Nat → Nat) {n m : Nat} (h : n < m) (b : Nat) (hb : b ≤ kf n) : rd (CF kf m) ((st kf n + b : Nat) : Int) = if b = kf n then (15, []) else (0, [(n : Int), (b : Int)]) := by
  unfold rd
  rw [if_pos (by omega), Int.toNat_natCast, CF_get kf h (show b < kf n + 1 by omega)]
  by_cases e : b = kf n
  · subst e; rw [fl_mark, if_pos rfl]; rfl
  · rw [fl_blk kf n b (by omega), if_neg e]; rfl
end Go.Proofs.Ytmcbmemgeegodaa
