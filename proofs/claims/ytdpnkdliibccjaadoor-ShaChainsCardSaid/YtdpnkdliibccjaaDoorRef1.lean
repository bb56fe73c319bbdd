/-
  The document's own sum: its constants, its padding.
-/
import Derived.Test.YtdpnkdliibccjaaDoorSum
namespace Go.Proofs.YtdpnkdliibccjaaDoor
open Go.RowKit
set_option linter.unusedVariables false

theorem append_bytes {w : World} {ops : Array Oper} {rest : List Oper} {o : Oper} {a : Act} {Q : Exit → Act → World → Prop} (hgd : o.guard = none) (s x : Operand)
    (ho : o.op = .call { callee := .builtin .append, args := #[s, x], argTypes := #[28, 28] })
    (base n kc m mc : Nat) (ko bo : Option Addr) (xs ys : List Int) (hs : a.eval s = .slice ko n kc) (hown : Ow w base ko n kc xs) (hx : a.eval x = .slice bo m mc) (hr : Rd w bo ys) (hl : ys.length = m) (hn : bo = none → mc = 0)
    (hm : n + m ≤ 1000000000) (hb : base ≤ w.heap.size)
    (h : ∀ ko' kc' w', Ow w' base ko' (n + m) kc' (xs ++ ys) → Below base w w' → wpList Tryd.prog ops Q rest (a.put o.dst (.slice ko' (n + m) kc')) w') : wpList Tryd.prog ops Q (o :: rest) a w := by
  obtain ⟨i0, hi, hz0, hz1, hz2⟩ := info_parts Tryd.info5
  have hlx := hown.1
  cases bo with
  | none =>
    obtain rfl := hn rfl
    have hy : ys = [] := by
      rcases hr with h | ⟨_, _, h, _⟩
      · exact h
      · cases h
    subst hy
    obtain rfl : m = 0 := hl.symm
    refine wpList_append_own_none hgd s x 28 ho base 5 i0 1 Tryd.underlying28 hi _ n _ hs hown.2.2.2 hx ?_
    exact h ko kc w (by simpa using hown) (Below.refl _ _)
  | some ad =>
    refine wpList_append_own _ hgd s x 28 ho base 5 i0 (.int .u8 0) 1 1 Tryd.underlying28 hi hz0 hz1 hz2 rfl (by decide) _ n _ hs hown.2.2.2 ad m mc (ys.map (.int .u8)) hx (by simp [hl]) (hr.cells ad rfl) (ints_oneCell _ _) (by unfold maxLen; omega) (by omega) hb ?_
    intro v' w' ho' hg' _
    rw [← List.map_append] at ho'
    obtain ⟨ko', kc', rfl, how⟩ := Ow.of (by simp [hlx, hl]) ho'
    exact h ko' kc' w' how (Below.grown (Below.refl _ _) hg' hb (own_ge hown.2.2.2))


theorem build_to {ops : Array Oper} {rest : List Oper} {o : Oper} {a : Act} {w : World} {Q : Exit → Act → World → Prop} (hg : o.guard = none) (t : TypeId) (parts : Array (Nat × Operand)) (ho : o.op = .build t parts) (KS : List Value)
    (hb : Tryd.prog.built t (parts.map fun (i, x) => (i, a.eval x)).toList = some KS.toArray) (h : wpList Tryd.prog ops Q rest (a.put o.dst (.agg KS.toArray)) w) : wpList Tryd.prog ops Q (o :: rest) a w := by
  refine wpList_build hg t parts ho (by rw [hb]; rfl) ?_
  rw [hb]
  exact h
theorem kl_len : kl.length = 64 := rfl
set_option maxRecDepth 100000 in
set_option maxHeartbeats 2000000 in
theorem k256_ok (w : World) : Calls Tryd.prog 20 #[] w fun e w' => e = .returned (.agg (kl.map uv).toArray) ∧ Below w.heap.size w w' := by
  obtain ⟨KS, hKS⟩ : ∃ KS, KS = kl.map uv := ⟨_, rfl⟩
  have hl : KS.length = 64 := by rw [hKS]; rfl
  have h1 : ∀ v ∈ KS, v.oneCell' = true := by rw [hKS]; exact one_uv
  rw [← hKS]
  have HKS := Lib.hid hKS; have HL := Lib.hid hl; have H1 := Lib.hid h1
  clear hKS hl h1
  go_enter Tryd.func20, Tryd.ntmps20
  go_wp2_with (first
    | (refine build_to rfl 45 _ rfl KS (by rw [HKS.out]; kernel_rfl) ?_)
    | (refine store_blk rfl 45 (.tmp 0) (.tmp 1) rfl w.heap.size (List.replicate 64 (.int .u32 0)) KS rfl rfl 45 (Blk.new w _ 45) (by rw [HL.out]; exact info45) (by rw [List.length_replicate, HL.out]) H1.out ?_; intro w2 HB2 HO2))
  refine bodyPost_ret (results_cell_row rfl _ _ w.heap.size 45 KS.toArray (0, 0) _ rfl HB2.out Tryd.underlying45 rfl (by rw [List.size_toArray, HL.out]; exact info45)) rfl ?_
  exact ⟨rfl, ((Below.refl _ _).alloc (Nat.le_refl _) _).trans (HO2.out.below (Nat.le_refl _))⟩
end Go.Proofs.YtdpnkdliibccjaaDoor
