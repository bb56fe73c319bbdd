/-
  The library's Join, of three parts; numbers in a row of one's own.
-/
import Derived.Shelf.Bytes.SlJoin
import Derived.Test.YtifbbikhjolnjaaDoorFrame15
import Derived.Test.YtifbbikhjolnjaaDoorFrame14
namespace Go.Proofs.YtifbbikhjolnjaaDoor
open Go.Shelf Go.RowKit
set_option linter.unusedVariables false

def laysJ_ren : Go.Shelf.Ren := ⟨fun | 14 => 33 | 15 => 39 | n => n, fun | 26 => 28 | 22 => 39 | 3 => 3 | 4 => 4 | 0 => 0 | 9 => 9 | 20 => 20 | 5 => 5 | n => n, fun | n => n⟩
theorem laysJ : Go.Proofs.SlLaysJ.n14 Tryd.prog laysJ_ren := {
  mixed := by kernel_rfl
  f14 := Tryd.func33.trans (congrArg some (by kernel_rfl))
  f15 := Tryd.func39.trans (congrArg some (by kernel_rfl))
  t0 := Tryd.underlying0
  a0 := Tryd.isAgg0
  z0 := Tryd.sizeOf0
  v0 := Tryd.zeroValue0
  t3 := Tryd.underlying3
  a3 := Tryd.isAgg3
  z3 := Tryd.sizeOf3
  v3 := Tryd.zeroValue3
  t4 := Tryd.underlying4
  a4 := Tryd.isAgg4
  z4 := Tryd.sizeOf4
  v4 := Tryd.zeroValue4
  t9 := Tryd.underlying9
  a9 := Tryd.isAgg9
  z9 := Tryd.sizeOf9
  v9 := Tryd.zeroValue9
  t20 := Tryd.underlying20
  a20 := Tryd.isAgg20
  z20 := Tryd.sizeOf20
  v20 := Tryd.zeroValue20
  t22 := Tryd.underlying39
  a22 := Tryd.isAgg39
  z22 := Tryd.sizeOf39
  v22 := Tryd.zeroValue39
  t26 := Tryd.underlying28
  a26 := Tryd.isAgg28
  z26 := Tryd.sizeOf28
  v26 := Tryd.zeroValue28
  t5 := Tryd.underlying5
  z5 := Tryd.sizeOf5
  i5 := by kernel_rfl }
theorem u8s_at {z : List Int} {i : Nat} {x : UInt8} (h : (u8s z)[i]? = some x) (hz : Bts z) : i < z.length ∧ (x.toNat : Int) = z.getD i 0 := by
  unfold u8s at h
  rw [List.getElem?_map] at h
  by_cases hi : i < z.length
  · rw [List.getElem?_eq_getElem hi] at h
    simp only [Option.map_some, Option.some.injEq] at h
    have hb := hz i hi
    rw [List.getD, List.getElem?_eq_getElem hi, Option.getD_some] at hb ⊢
    refine ⟨hi, ?_⟩
    rw [← h]
    simp only [UInt8.toNat_ofNat']
    omega
  · rw [List.getElem?_eq_none (by omega)] at h; cases h
theorem holds_of {w : World} {p : Part} (h : p.ok w) : Lib.HoldsBytes w (.slice p.a p.l p.c) (u8s p.z) := by
  refine ⟨p.a, p.c, by unfold u8s; rw [List.length_map, h.len], fun hn => ?_, fun a ha i x hx => ?_⟩
  · rcases h.rd with hr | ⟨b, o, hb, _⟩
    · rw [hr]; rfl
    · rw [hn] at hb; cases hb
  · obtain ⟨hi, hv⟩ := u8s_at hx h.bts
    rcases h.rd with hr | ⟨b, o, hb, hc⟩
    · rw [hr] at hi; simp at hi
    · rw [ha] at hb
      obtain rfl := Option.some.inj hb
      rw [Addr.add_lit, hc i hi, hv]
theorem u8s_app (a b : List Int) : u8s (a ++ b) = u8s a ++ u8s b := by unfold u8s; rw [List.map_append]
theorem bytesOf_u8s (zs : List Int) : Lib.bytesOf zs = u8s zs := rfl
/-- JOIN, of three parts. -/
theorem join3 (g : Nat) (p q r : Part) (w : World) (hg : w.heap[g]? = some (.cells #[.slice p.a p.l p.c, .slice q.a q.l q.c, .slice r.a r.l r.c] 39)) (hp : p.ok w) (hq : q.ok w) (hr : r.ok w) (hl : p.l + q.l + r.l ≤ 100000000) :
    Calls Tryd.prog 33 #[.slice (some ⟨g, 0, none⟩) 3 3, .slice none 0 0] w fun e w' => ∃ k cap, e = .returned (.slice (some ⟨k, 0, none⟩) (p.z ++ (q.z ++ r.z)).length cap) ∧ w.heap.size ≤ k ∧ (p.z ++ (q.z ++ r.z)).length ≤ cap ∧ cap ≤ maxLen ∧ Rd w' (some ⟨k, 0, none⟩) (p.z ++ (q.z ++ r.z)) ∧ Below w.heap.size w w' := by
  have hP : Lib.PartsAt w ⟨g, 0, none⟩ [.slice p.a p.l p.c, .slice q.a q.l q.c, .slice r.a r.l r.c] [u8s p.z, u8s q.z, u8s r.z] := by
    refine ⟨rfl, fun i v hi => ?_, fun i v l hi hj => ?_⟩
    · rw [Addr.add_lit, Nat.zero_add]
      match i, hi with
      | 0, hi => simp at hi; subst hi; simp [World.cell?, hg]
      | 1, hi => simp at hi; subst hi; simp [World.cell?, hg]
      | 2, hi => simp at hi; subst hi; simp [World.cell?, hg]
      | i + 3, hi => simp at hi
    · match i, hi, hj with
      | 0, hi, hj => simp at hi hj; subst hi; subst hj; exact holds_of hp
      | 1, hi, hj => simp at hi hj; subst hi; subst hj; exact holds_of hq
      | 2, hi, hj => simp at hi hj; subst hi; subst hj; exact holds_of hr
      | i + 3, hi, hj => simp at hi
  have hll : Lib.lens [u8s p.z, u8s q.z, u8s r.z] = p.l + q.l + r.l := by
    have l1 := hp.len; have l2 := hq.len; have l3 := hr.len
    unfold Lib.lens u8s; simp; omega
  have hj : Lib.join [u8s p.z, u8s q.z, u8s r.z] [] = u8s (p.z ++ (q.z ++ r.z)) := by
    rw [u8s_app, u8s_app, Lib.join_cons]; unfold Lib.joinTail; simp
  have hS : Lib.HoldsBytes w (.slice none 0 0) [] := ⟨none, 0, rfl, fun _ => rfl, fun a ha => by cases ha⟩
  have h := Any.bytes_Join_many laysJ g 0 3 3 _ _ (.slice none 0 0) [] w rfl (by omega) hP (Nat.le_refl _) hS (by omega) (by rw [hll]; simp; omega)
  refine Calls.mono h ?_
  rintro e w' ⟨v', rfl, ⟨k, cap, zs, rfl, hk, h1, h2, h3, h4, h5, h6, _⟩, hB⟩
  rw [hj] at h1 h5
  have hul : (u8s (p.z ++ (q.z ++ r.z))).length = (p.z ++ (q.z ++ r.z)).length := by unfold u8s; rw [List.length_map]
  rw [hul] at h1 h5
  have hbt : Bts (p.z ++ (q.z ++ r.z)) := bts_app hp.bts (bts_app hq.bts hr.bts)
  have hbz : Bts (zs.take (p.z ++ (q.z ++ r.z)).length) := by
    refine Bts.take (fun j hj => ?_) _
    have := h4 zs[j] (List.getElem_mem hj)
    rw [List.getD, List.getElem?_eq_getElem hj, Option.getD_some]
    omega
  have hz : zs.take (p.z ++ (q.z ++ r.z)).length = p.z ++ (q.z ++ r.z) := u8s_inj _ _ hbz hbt (by rw [← bytesOf_u8s]; exact h5)
  refine ⟨k, cap, by rw [hj, hul], hk, h1, h2, ?_, hB⟩
  refine .inr ⟨k, 0, rfl, fun j hj' => ?_⟩
  rw [Nat.zero_add, h6 j (by omega)]
  have : (p.z ++ (q.z ++ r.z)).getD j 0 = zs.getD j 0 := by
    have e : (zs.take (p.z ++ (q.z ++ r.z)).length).getD j 0 = zs.getD j 0 := by
      simp only [List.getD, List.getElem?_take]
      rw [if_pos hj']
    rw [← e, hz]
  rw [this]

/-- THE NUMBERS zs LIE IN A ROW OF THE CALL'S OWN. -/
def On (w : World) (base : Nat) (ko : Option Addr) (n kc : Nat) (zs : List Int) : Prop :=
  zs.length = n ∧ n ≤ kc ∧ kc ≤ maxLen ∧ w.ownsRow base 3 1 (.slice ko n kc) n (zs.map (Value.int .i64))
theorem On.nil (w : World) (base : Nat) : On w base none 0 0 [] := ⟨rfl, Nat.le_refl _, Nat.zero_le _, World.ownsRow_nil _ _ _ _⟩
theorem On.below {w w' : World} {base : Nat} {ko : Option Addr} {n kc : Nat} {zs : List Int} (h : On w base ko n kc zs) (hB : Below w.heap.size w w') : On w' base ko n kc zs := ⟨h.1, h.2.1, h.2.2.1, owns_below h.2.2.2 hB⟩
theorem On.at {w : World} {base : Nat} {ko : Option Addr} {n kc : Nat} {zs : List Int} (h : On w base ko n kc zs) {j : Nat} (hj : j < n) : ∃ g, ko = some ⟨g, 0, none⟩ ∧ base ≤ g ∧ w.cell? ⟨g, j, none⟩ = some (.int .i64 (zs.getD j 0)) := by
  obtain ⟨h1, h2, h3, h4⟩ := h
  rcases h4.2 with ⟨q, hn⟩ | ⟨g, c, cur, q, hb, _⟩
  · omega
  · simp only [Value.slice.injEq] at q
    obtain ⟨rfl, _, rfl⟩ := q
    refine ⟨g, rfl, hb, ?_⟩
    rw [h4.cellAt j (by omega)]
    simp [List.getD, show j < zs.length by omega]
theorem info3 : (Tryd.prog.info? 3).map (fun i => (i.zero, i.size, i.bytes)) = some (some (.int .i64 0), 1, 8) := by kernel_rfl
theorem append_num {w : World} {ops : Array Oper} {rest : List Oper} {o : Oper} {a : Act} {Q : Exit → Act → World → Prop} (hgd : o.guard = none) (s x : Operand)
    (ho : o.op = .call { callee := .builtin .append, args := #[s, x], argTypes := #[29, 29] })
    (base n kc g : Nat) (ko : Option Addr) (zs : List Int) (y : Int) (hs : a.eval s = .slice ko n kc) (hown : On w base ko n kc zs) (hx : a.eval x = .slice (some ⟨g, 0, none⟩) 1 1)
    (hg : w.heap[g]? = some (.cells #[.int .i64 y] 3))
    (hm : n ≤ 1000000000) (hb : base ≤ w.heap.size)
    (h : ∀ ko' kc' w', On w' base ko' (n + 1) kc' (zs ++ [y]) → Below base w w' → (∀ (j : Nat) (cs : Array Value) (t : Nat) (fr : Nat × Nat), t ≠ 3 → w.heap[j]? = some (Obj.cells cs t fr) → w'.heap[j]? = some (Obj.cells cs t fr)) → wpList Tryd.prog ops Q rest (a.put o.dst (.slice ko' (n + 1) kc')) w') : wpList Tryd.prog ops Q (o :: rest) a w := by
  obtain ⟨i0, hi, hz0, hz1, hz2⟩ := info_parts info3
  obtain ⟨h1, h2, h3, h4⟩ := hown
  refine wpList_append_own _ hgd s x 29 ho base 3 i0 (.int .i64 0) 1 8 Tryd.underlying29 hi hz0 hz1 hz2 rfl (by decide) _ n _ hs h4 ⟨g, 0, none⟩ 1 1 [.int .i64 y] hx rfl ?_ ?_ (by unfold maxLen; omega) (by omega) hb ?_
  · intro j u hj
    rw [Addr.add_lit, Nat.zero_add]
    match j, hj with
    | 0, hj => simp at hj; subst hj; simp [World.cell?, hg]
    | j + 1, hj => simp at hj
  · intro u hu
    simp at hu
    subst hu; rfl
  · intro v' w' ho' hg' _
    rw [show (zs.map (Value.int .i64) ++ [Value.int .i64 y]) = (zs ++ [y]).map (Value.int .i64) by simp] at ho'
    have hv : ∃ ko' kc', v' = .slice ko' (n + 1) kc' ∧ n + 1 ≤ kc' ∧ kc' ≤ maxLen := by
      rcases ho'.2 with ⟨_, h0⟩ | ⟨g', cap', cur, q1, _, _, q4, q5, _⟩
      · omega
      · exact ⟨_, cap', q1, q4, q5⟩
    obtain ⟨ko', kc', rfl, hk1, hk2⟩ := hv
    refine h ko' kc' w' ⟨by simp [h1], hk1, hk2, ho'⟩ (Below.grown (Below.refl _ _) hg' hb (own_ge3 h4)) fun j cs t fr ht hj => ?_
    have hne : some j ≠ (Value.slice ko n kc).ownBlock := by
      intro e'
      rcases h4.2 with ⟨q', _⟩ | ⟨g', cap, cur', q1, q2, q3, q4⟩
      · rw [q'] at e'; cases e'
      · rw [q1] at e'
        cases e'
        rw [q3] at hj
        simp only [Option.some.injEq, Obj.cells.injEq] at hj
        exact ht hj.2.1.symm
    rw [hg'.block j (Array.getElem?_eq_some_iff.1 hj).1 hne]; exact hj

end Go.Proofs.YtifbbikhjolnjaaDoor
