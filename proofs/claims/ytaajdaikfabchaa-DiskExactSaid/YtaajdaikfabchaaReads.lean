/-
  DiskReads: the walk.
-/
import Derived.Test.YtaajdaikfabchaaLw3
import Derived.Test.YtaajdaikfabchaaOpen
namespace Go.Proofs.Ytaajdaikfabchaa
open Go.RowKit
set_option linter.unusedVariables false

theorem Bl.at {w : World} {ao : Option Addr} {bs : List Bool} (h : Bl w ao bs) (h0 : 0 < bs.length) : ∃ b o, ao = some ⟨b, o, none⟩ ∧ ∀ j, j < bs.length → w.cell? ⟨b, o + j, none⟩ = some (.bool (bs.getD j false)) := by
  rcases h with h | h
  · subst h; simp at h0
  · exact h
def pv (p : Part) : Value := .slice p.a p.l p.c
theorem make_rows (m : Nat) (hm : m ≤ 1000000) (w : World) : (Instr.makeSlice 52 (.int .i64 (m : Int)) (.int .i64 (m : Int))).run Try.prog w = .ok (.slice (some ⟨w.heap.size, 0, none⟩) m m) (w.alloc (.cells ((List.replicate m Part.none).map pv).toArray 36)) := by
  obtain ⟨i0, hi, hz0, hz1, hz2⟩ := info_parts (show (Try.prog.info? 36).map (fun i => (i.zero, i.size, i.bytes)) = some (some (.slice none 0 0), 1, 24) by kernel_rfl)
  have hb : (i0.bytes : Int) * (m : Int) ≤ 281474976710656 := by rw [hz2]; omega
  have hr := run_make (P := Try.prog) w 52 36 i0 _ Try.underlying52 hi hz0 .i64 .i64 (m : Int) (m : Int) (by omega) (by omega) hb (by omega)
  simp only [Int.toNat_natCast] at hr
  rw [hz1, Nat.mul_one, show madeCells (Value.slice none 0 0).cells m = ((List.replicate m Part.none).map pv).toArray from by
    rw [List.map_replicate, show pv Part.none = Value.slice none 0 0 from rfl, ← toList_madeCells_one]; rfl] at hr
  exact hr
theorem full_full {z : List Int} (h : z.length = 256) : full z = z := by unfold full; rw [h]; simp
theorem full_nil : full [] = List.replicate 256 0 := rfl
theorem Own1.lt {w : World} {p : Part} (h : Own1 w p) {g : Nat} (hg : p.a = some ⟨g, 0, none⟩) : g < w.heap.size := by
  rcases h.2 with h4 | ⟨g2, cur, h4, h5⟩
  · rw [h4] at hg; cases hg
  · rw [h4] at hg; cases hg; exact (Array.getElem?_eq_some_iff.1 h5).1

/-- Of 6 sectors, what is read is what the rows N say. -/
structure RI (w0 w : World) (Bp g gp gr : Nat) (D : DS) (N : List Part) : Prop where
  sys : Sys w w w0.heap.size Bp g gp 6 D PP.new
  life : D.life = 0
  rows : Blk w gr 36 (N.map pv)
  nl : N.length = 6
  dl : D.ns.length = 6
  own : ∀ p ∈ N, Own1 w p ∧ p.l = 256
  eq : ∀ j, (h : j < N.length) → N[j].z = full (D.ns.getD j Sec.none).d.z ∧ (D.ns.getD j Sec.none).t = false
  low : Below w0.heap.size w0 w
  ge : w0.heap.size ≤ gr
section
variable {w0 w w' : World} {Bp g gp gr : Nat} {D D' : DS} {N : List Part}
theorem RI.turn (h : RI w0 w Bp g gp gr D N) (hs : Sys w w' w0.heap.size Bp g gp 6 D' PP.new) (hl : D'.life = 0) (hn : D'.ns = D.ns) : RI w0 w' Bp g gp gr D' N :=
  ⟨hs.refl, hl, hs.kt.keep _ _ _ _ nofun rfl h.rows, h.nl, by rw [hn]; exact h.dl, fun p hp => ⟨(h.own p hp).1.kt hs.kt rfl (fun _ _ => nofun), (h.own p hp).2⟩, fun j hj => by rw [hn]; exact h.eq j hj, h.low.trans hs.low, h.ge⟩
theorem RI.below (h : RI w0 w Bp g gp gr D N) (hB : Below w.heap.size w w') : RI w0 w' Bp g gp gr D N := h.turn (h.sys.below hB) h.life rfl
theorem RI.spo (h : RI w0 w Bp g gp gr D N) {ko : Option Addr} {base m kc : Nat} {zs : List Int} (ho : Ow w base ko m kc zs) (hs : Spo ko w w') (ha : D.away ko) (hb : w0.heap.size ≤ base) (hN : ∀ p ∈ N, p.a = none ∨ p.a ≠ ko) : RI w0 w' Bp g gp gr D N := by
  have hge : ∀ k, ko = some ⟨k, 0, none⟩ → w0.heap.size ≤ k := fun k e => by
    rcases ho.2.2.2.2 with ⟨q, _⟩ | ⟨g', cap, cur, q, hb, _⟩
    · simp only [Value.slice.injEq] at q; rw [q.1] at e; cases e
    · simp only [Value.slice.injEq] at q
      rw [q.1] at e
      cases e; omega
  refine ⟨h.sys.spo ho hs ha hb, h.life, ?_, h.nl, h.dl, fun p hp => ⟨(h.own p hp).1.blk fun k hk => hs.block k fun e => ?_, (h.own p hp).2⟩, h.eq, h.low.trans (hs.below hge), h.ge⟩
  · have hr := h.rows
    unfold Blk at hr ⊢
    rw [hs.block gr ?_]; exact hr
    intro e
    rcases ho.2.2.2.2 with ⟨q, _⟩ | ⟨g', cap, cur, q, _, hh, _⟩
    · simp only [Value.slice.injEq] at q; rw [q.1] at e; cases e
    · simp only [Value.slice.injEq] at q
      rw [q.1] at e
      cases e
      rw [hh] at hr
      simp only [Option.some.injEq, Obj.cells.injEq] at hr
      exact absurd hr.2.1 (by decide)
  · rcases hN p hp with h1 | h1
    · rw [h1] at hk; cases hk
    · exact h1 (by rw [hk, e])
/-- What is fresh is none of the rows. -/
theorem RI.fresh (h : RI w0 w Bp g gp gr D N) {ko : Option Addr} (hk : ∀ k, ko = some ⟨k, 0, none⟩ → w.heap.size ≤ k) : ∀ p ∈ N, p.a = none ∨ p.a ≠ ko := fun p hp => by
  rcases (h.own p hp).1.2 with h4 | ⟨g2, cur, h4, h5⟩
  · exact .inl h4
  · refine .inr fun e => ?_
    rw [h4] at e
    have := hk g2 e.symm
    have := (Array.getElem?_eq_some_iff.1 h5).1
    omega
/-- Written, and told of in the rows. -/
theorem RI.write (h : RI w0 w Bp g gp gr D N) {w1 w2 : World} {k : Nat} {d p : Part} (hk : k < 6) (hs : Sys w w1 w0.heap.size Bp g gp 6 (D.put k d) PP.new) (hB : Below w1.heap.size w1 w2) (hp : Own1 w2 p) (hpl : p.l = 256) (hz : p.z = d.z) : RI w0 (w2.setCell ⟨gr, k, none⟩ (pv p)) Bp g gp gr (D.put k d) (N.set k p) := by
  have hs2 := hs.below hB
  have hr2 : Blk w2 gr 36 (N.map pv) := hs2.kt.keep _ _ _ _ nofun rfl h.rows
  have hr3 := hr2.set (j := k) (pv p)
  rw [← List.map_set] at hr3
  have hk3 : KT (fun t => t == 36) none w2 (w2.setCell ⟨gr, k, none⟩ (pv p)) := KT.set hr2 rfl _ _
  have hpz : p.z.length = 256 := by have := hp.1.len; omega
  have hs3 : Sys (w2.setCell ⟨gr, k, none⟩ (pv p)) (w2.setCell ⟨gr, k, none⟩ (pv p)) w0.heap.size Bp g gp 6 (D.put k d) PP.new := by
    obtain ⟨gn, gs, oo, q, oc, hs2⟩ := hs2
    exact ⟨gn, gs, oo, q, oc, hs2.d.kt hk3 rfl rfl rfl rfl (fun _ _ _ _ => nofun), hs2.p.kt hk3 rfl rfl (fun _ => nofun), Below.refl _ _, KT.refl _ _ _⟩
  refine ⟨hs3, h.life, hr3, by rw [List.length_set]; exact h.nl, by show (D.ns.set k _).length = 6; rw [List.length_set]; exact h.dl, fun q hq => ?_, fun j hj => ?_, h.low.trans (hs2.low.setCell h.ge _), h.ge⟩
  · rcases List.mem_or_eq_of_mem_set hq with hq | rfl
    · exact ⟨((h.own q hq).1.kt hs2.kt rfl (fun _ _ => nofun)).kt hk3 rfl (fun _ _ => nofun), (h.own q hq).2⟩
    · exact ⟨hp.kt hk3 rfl (fun _ _ => nofun), hpl⟩
  · rw [List.length_set] at hj
    have hkd : k < D.ns.length := by rw [h.dl]; exact hk
    show (N.set k p)[j].z = full ((D.ns.set k ⟨d, false⟩).getD j Sec.none).d.z ∧ ((D.ns.set k ⟨d, false⟩).getD j Sec.none).t = false
    by_cases e : k = j
    · subst e
      rw [List.getElem_set_self, List.getD, List.getElem?_set_self hkd]
      exact ⟨by simp only [Option.getD_some]; rw [← hz, full_full hpz], rfl⟩
    · rw [List.getElem_set_ne e, List.getD, List.getElem?_set_ne e]
      exact h.eq j hj
end

end Go.Proofs.Ytaajdaikfabchaa
