/-
  The document's disk in memory; what stays.
-/
import Derived.Test.YtaajdaikfabchaaRq1
import Derived.Test.YtaajdaikfabchaaDk5
import Derived.Test.YtaajdaikfabchaaLw2
namespace Go.Proofs.Ytaajdaikfabchaa
open Go.RowKit
set_option linter.unusedVariables false

def rsv (s : Sec) : Value := .slice s.d.a s.d.l s.d.c
def rtv (s : Sec) : Value := .bool s.t
/-- Bytes of a sector of the document's disk: 256 in a block of their own, not X. -/
def Da (w : World) (B : Nat) (X : Option Addr) (d : Part) : Prop := d.l = 256 ∧ Own1 w d ∧ (∃ g, d.a = some ⟨g, 0, none⟩ ∧ B ≤ g) ∧ d.a ≠ X
theorem Da.tag {w : World} {B : Nat} {X : Option Addr} {d : Part} (h : Da w B X d) {g : Nat} (hg : d.a = some ⟨g, 0, none⟩) : ∃ cur, w.heap[g]? = some (.cells cur 5 (0, 0)) := by
  rcases h.2.1.2 with h4 | ⟨g', cur, h4, h5⟩
  · rw [h4] at hg; cases hg
  · rw [h4] at hg; cases hg; exact ⟨cur, h5⟩
theorem Da.kt {S : Nat → Bool} {x : Option Nat} {w w' : World} {B : Nat} {X : Option Addr} {d : Part} (h : Da w B X d) (hk : KT S x w w') (hS : S 5 = false) (hx : ∀ g, d.a = some ⟨g, 0, none⟩ → x ≠ some g) : Da w' B X d :=
  ⟨h.1, h.2.1.kt hk hS hx, h.2.2⟩
theorem Da.at {S : Nat → Bool} {w w' : World} {B b t : Nat} {X : Option Addr} {d : Part} {cs : Array Value} {fr : Nat × Nat} (h : Da w B X d) (hk : KT S (some b) w w') (hS : S 5 = false) (hb : w.heap[b]? = some (.cells cs t fr)) (ht : t ≠ 5) : Da w' B X d :=
  h.kt hk hS fun g hg e => by
    obtain ⟨cur, hc⟩ := h.tag hg
    cases e
    exact tag_ne hb hc ht rfl
theorem KT.at {w : World} {g i : Nat} {u : Value} (S : Nat → Bool) : KT S (some g) w (w.setCell ⟨g, i, none⟩ u) :=
  ⟨by simp [World.setCell], fun b cs t fr hne _ hb => by rw [set_far _ _ _ _ _ (fun e => hne (by rw [e]))]; exact hb⟩
theorem KT.to_ {S : Nat → Bool} {g : Nat} {w w' : World} (h : KT S none w w') : KT S (some g) w w' := ⟨h.size, fun b cs t fr _ h2 h3 => h.keep b cs t fr nofun h2 h3⟩
theorem DkB.own_set' {w : World} {B e m sz : Nat} {v : Value} {zs : List Value} (h : w.ownsRow B e sz v m zs) {b t : Nat} {cs : Array Value} {fr : Nat × Nat} (hb : w.heap[b]? = some (.cells cs t fr)) (ht : t ≠ e) (i : Nat) (u : Value) : (w.setCell ⟨b, i, none⟩ u).ownsRow B e sz v m zs :=
  own_heap h fun g cur hg => set_far _ _ _ _ _ (tag_ne hg hb (Ne.symm ht))
theorem KT.k {S : Nat → Bool} {w w' : World} (h : KT S none w w') {b t : Nat} {cs : Array Value} {fr : Nat × Nat} (ht : S t = false) (hb : w.heap[b]? = some (.cells cs t fr)) : w'.heap[b]? = some (.cells cs t fr) := h.keep b cs t fr (fun e => by cases e) ht hb
/-- The kinds of blocks that the document's disk writes. -/
def KR (t : Nat) : Bool := t == 63 || t == 70 || t == 36 || t == 75

/-- THE DOCUMENT'S DISK AND ITS POWER, and what has stayed since w0. -/
structure Ry (w0 w : World) (B Bp g gp gt gs : Nat) (X : Option Addr) (life : Int) (n sc : Nat) (rest : List Value) (lo : Option Addr) (k lc : Nat) (ss : List Sec) (xs : List Wr) (P : PP) : Prop where
  blk : w.heap[g]? = some (.cells #[.pointer (some ⟨gp, 0, none⟩), .int .i64 life, .slice (some ⟨gs, 0, none⟩) n sc, .slice (some ⟨gt, 0, none⟩) n n, .slice lo k lc] 70 (0, 0))
  safe : Blk w gs 36 (ss.map rsv ++ rest)
  torn : Blk w gt 4 (ss.map rtv)
  loose : w.ownsRow B 75 2 (.slice lo k lc) k (wcs xs)
  ls : ss.length = n
  lx : xs.length = k
  hn : 1 ≤ n ∧ n ≤ 600
  hsc : n ≤ sc ∧ sc ≤ maxLen
  low : B ≤ g ∧ B ≤ gt ∧ B ≤ gs ∧ B ≤ gp ∧ B ≤ w.heap.size
  gtB : gt < Bp ∧ Bp ≤ w.heap.size
  ds : ∀ s ∈ ss, Da w B X s.d
  dx : ∀ x ∈ xs, Da w B X x.d ∧ x.i < n
  pw : PqM w Bp gp P
  bel : Below B w0 w
  kt : KT KR (some gt) w0 w
section
variable {w0 w w' : World} {B Bp g gp gt gs : Nat} {X : Option Addr} {life : Int} {n sc : Nat} {rest : List Value} {lo : Option Addr} {k lc : Nat} {ss : List Sec} {xs : List Wr} {P : PP}
theorem Ry.below (h : Ry w0 w B Bp g gp gt gs X life n sc rest lo k lc ss xs P) (hB : Below w.heap.size w w') : Ry w0 w' B Bp g gp gt gs X life n sc rest lo k lc ss xs P := by
  have hk : KT (fun _ => false) Option.none w w' := KT.below _ _ hB
  exact ⟨hk.k rfl h.blk, hk.k rfl h.safe, hk.k rfl h.torn, own_heap h.loose fun g cur hg => hB.block g (Array.getElem?_eq_some_iff.1 hg).1, h.ls, h.lx, h.hn, h.hsc,
    ⟨h.low.1, h.low.2.1, h.low.2.2.1, h.low.2.2.2.1, Nat.le_trans h.low.2.2.2.2 hB.size⟩, ⟨h.gtB.1, Nat.le_trans h.gtB.2 hB.size⟩, fun s hs => (h.ds s hs).kt hk rfl (fun _ _ e => by cases e), fun x hx => ⟨(h.dx x hx).1.kt hk rfl (fun _ _ e => by cases e), (h.dx x hx).2⟩,
    h.pw.below hB, h.bel.trans (hB.mono h.low.2.2.2.2), h.kt.trans (KT.below _ _ hB)⟩
theorem Ry.alloc (h : Ry w0 w B Bp g gp gt gs X life n sc rest lo k lc ss xs P) (o : Obj) : Ry w0 (w.alloc o) B Bp g gp gt gs X life n sc rest lo k lc ss xs P := h.below ((Below.refl _ _).alloc (Nat.le_refl _) _)
theorem Ry.drew (h : Ry w0 w B Bp g gp gt gs X life n sc rest lo k lc ss xs P) : Ry w0 w.drew B Bp g gp gt gs X life n sc rest lo k lc ss xs P := h.below (Below.refl _ _).drew
theorem Ry.refl (h : Ry w0 w B Bp g gp gt gs X life n sc rest lo k lc ss xs P) : Ry w w B Bp g gp gt gs X life n sc rest lo k lc ss xs P :=
  ⟨h.blk, h.safe, h.torn, h.loose, h.ls, h.lx, h.hn, h.hsc, h.low, h.gtB, h.ds, h.dx, h.pw, Below.refl _ _, KT.refl _ _ _⟩
/-- Others write. -/
theorem Ry.other {S : Nat → Bool} (h : Ry w0 w B Bp g gp gt gs X life n sc rest lo k lc ss xs P) (hk : KT S Option.none w w') (h4 : S 4 = false) (h5 : S 5 = false) (h36 : S 36 = false) (h63 : S 63 = false) (h70 : S 70 = false) (h75 : S 75 = false) : Ry w' w' B Bp g gp gt gs X life n sc rest lo k lc ss xs P :=
  ⟨hk.k h70 h.blk, hk.k h36 h.safe, hk.k h4 h.torn, own_heap h.loose fun g cur hg => (hk.k h75 hg).trans hg.symm, h.ls, h.lx, h.hn, h.hsc,
    ⟨h.low.1, h.low.2.1, h.low.2.2.1, h.low.2.2.2.1, Nat.le_trans h.low.2.2.2.2 hk.size⟩, ⟨h.gtB.1, Nat.le_trans h.gtB.2 hk.size⟩, fun s hs => (h.ds s hs).kt hk h5 (fun _ _ e => by cases e), fun x hx => ⟨(h.dx x hx).1.kt hk h5 (fun _ _ e => by cases e), (h.dx x hx).2⟩,
    h.pw.kt hk h63 h4 (fun _ e => by cases e), Below.refl _ _, KT.refl _ _ _⟩
/-- Another block that none of its bytes lie in. -/
theorem Ry.fresh (h : Ry w0 w B Bp g gp gt gs X life n sc rest lo k lc ss xs P) {Y : Option Addr} (hY : ∀ b, Y = some ⟨b, 0, none⟩ → w.heap.size ≤ b) : Ry w0 w B Bp g gp gt gs Y life n sc rest lo k lc ss xs P := by
  have key : ∀ d, Da w B X d → Da w B Y d := fun d hd => by
    refine ⟨hd.1, hd.2.1, hd.2.2.1, fun e => ?_⟩
    obtain ⟨g', hg', _⟩ := hd.2.2.1
    obtain ⟨cur, hc⟩ := hd.tag hg'
    have := hY g' (by rw [← e, hg'])
    have := (Array.getElem?_eq_some_iff.1 hc).1
    omega
  exact ⟨h.blk, h.safe, h.torn, h.loose, h.ls, h.lx, h.hn, h.hsc, h.low, h.gtB, fun s hs => key _ (h.ds s hs), fun x hx => ⟨key _ (h.dx x hx).1, (h.dx x hx).2⟩, h.pw, h.bel, h.kt⟩
/-- The row X is written over. -/
theorem Ry.spo {base m kc : Nat} {zs : List Int} (h : Ry w0 w B Bp g gp gt gs X life n sc rest lo k lc ss xs P) (ho : Ow w base X m kc zs) (hs : Spo X w w') : Ry w' w' B Bp g gp gt gs X life n sc rest lo k lc ss xs P := by
  have htag : ∀ (b : Nat) (cs : Array Value) (t : Nat) (fr : Nat × Nat), X = some ⟨b, 0, none⟩ → w.heap[b]? = some (.cells cs t fr) → t = 5 := fun b cs t fr e hh => by
    rcases ho.2.2.2.2 with ⟨q, _⟩ | ⟨g', cap, cur, q, _, hh', _⟩
    · simp only [Value.slice.injEq] at q; rw [q.1] at e; cases e
    · simp only [Value.slice.injEq] at q
      rw [q.1] at e
      cases e
      rw [hh'] at hh
      simp only [Option.some.injEq, Obj.cells.injEq] at hh
      exact hh.2.1.symm
  have hk : ∀ (b : Nat) (cs : Array Value) (t : Nat) (fr : Nat × Nat), t ≠ 5 → w.heap[b]? = some (Obj.cells cs t fr) → w'.heap[b]? = some (Obj.cells cs t fr) := fun b cs t fr ht hh => by
    rw [hs.block b fun e => ht (htag b cs t fr e hh)]; exact hh
  have hk5 : KT (fun t => t == 5) none w w' := ⟨Nat.le_of_eq hs.size.symm, fun b cs t fr _ ht hh => hk b cs t fr (by simpa using ht) hh⟩
  have hD : ∀ d, Da w B X d → Da w' B X d := fun d hd => by
    obtain ⟨h1, h2, h3, h4⟩ := hd
    exact ⟨h1, h2.blk fun g2 hg3 => hs.block g2 fun e => h4 (by rw [hg3, e]), h3, h4⟩
  exact ⟨hk _ _ _ _ (by decide) h.blk, hk _ _ _ _ (by decide) h.safe, hk _ _ _ _ (by decide) h.torn, own_heap h.loose fun g' cur hg => (hk _ _ _ _ (by decide) hg).trans hg.symm, h.ls, h.lx, h.hn, h.hsc,
    ⟨h.low.1, h.low.2.1, h.low.2.2.1, h.low.2.2.2.1, by rw [hs.size]; exact h.low.2.2.2.2⟩, ⟨h.gtB.1, by rw [hs.size]; exact h.gtB.2⟩, fun s hs => hD _ (h.ds s hs), fun x hx => ⟨hD _ (h.dx x hx).1, (h.dx x hx).2⟩, h.pw.kt hk5 rfl rfl (fun _ e => by cases e), Below.refl _ _, KT.refl _ _ _⟩
theorem Ry.c (h : Ry w0 w B Bp g gp gt gs X life n sc rest lo k lc ss xs P) : w.cell? ⟨g, 0, none⟩ = some (.pointer (some ⟨gp, 0, none⟩)) ∧ w.cell? ⟨g, 1, none⟩ = some (.int .i64 life) ∧ w.cell? ⟨g, 2, none⟩ = some (.slice (some ⟨gs, 0, none⟩) n sc) ∧ w.cell? ⟨g, 3, none⟩ = some (.slice (some ⟨gt, 0, none⟩) n n) ∧ w.cell? ⟨g, 4, none⟩ = some (.slice lo k lc) ∧ (∀ i, w.frozen? ⟨g, i, none⟩ = false) ∧ (∀ i, w.frozen? ⟨gs, i, none⟩ = false) ∧ (∀ i, w.frozen? ⟨gt, i, none⟩ = false) :=
  ⟨by rw [Joins.cell_of_block h.blk]; rfl, by rw [Joins.cell_of_block h.blk]; rfl, by rw [Joins.cell_of_block h.blk]; rfl, by rw [Joins.cell_of_block h.blk]; rfl, by rw [Joins.cell_of_block h.blk]; rfl, fun i => Joins.unfrozen_of_block h.blk i, fun i => h.safe.free, fun i => h.torn.free⟩
theorem Ry.sec (h : Ry w0 w B Bp g gp gt gs X life n sc rest lo k lc ss xs P) {i : Nat} (hi : i < ss.length) : w.cell? ⟨gs, i, none⟩ = some (.slice ss[i].d.a ss[i].d.l ss[i].d.c) ∧ w.cell? ⟨gt, i, none⟩ = some (.bool ss[i].t) := by
  constructor
  · rw [h.safe.cell (by simp; omega), List.getD, List.getElem?_append_left (by simpa using hi), List.getElem?_map, List.getElem?_eq_getElem hi]; rfl
  · rw [h.torn.cell (by simpa using hi), List.getD, List.getElem?_map, List.getElem?_eq_getElem hi]; rfl
theorem Ry.wr (h : Ry w0 w B Bp g gp gt gs X life n sc rest lo k lc ss xs P) {j : Nat} (hj : j < xs.length) : ∃ gx, lo = some ⟨gx, 0, none⟩ ∧ w.cell? ⟨gx, j * 2, none⟩ = some (.int .i64 xs[j].i) ∧ w.cell? ⟨gx, j * 2 + 1, none⟩ = some (.slice xs[j].d.a xs[j].d.l xs[j].d.c) := by
  have hlx := h.lx
  rcases h.loose.2 with ⟨q, hn⟩ | ⟨gx, c, cur, q, _⟩
  · omega
  · have hl := h.loose
    simp only [Value.slice.injEq] at q
    obtain ⟨rfl, _, rfl⟩ := q
    obtain ⟨c0, c1⟩ := two_get (fun x : Wr => .int .i64 x.i) (fun x => .slice x.d.a x.d.l x.d.c) xs j hj
    exact ⟨gx, rfl, by rw [hl.cellAt (j * 2) (by omega)]; exact c0, by rw [hl.cellAt (j * 2 + 1) (by omega)]; exact c1⟩
/-- A step that writes but gt and kinds of KR: what stays. -/
theorem Ry.tear (h : Ry w0 w B Bp g gp gt gs X life n sc rest lo k lc ss xs P) {i : Nat} (hi : i < n) : Ry w0 (w.setCell ⟨gt, i, none⟩ (.bool true)) B Bp g gp gt gs X life n sc rest lo k lc (ss.set i ⟨(ss.getD i Sec.none).d, true⟩) xs P := by
  have hi' : i < ss.length := by rw [h.ls]; exact hi
  have hsd : ss.getD i Sec.none = ss[i] := by simp [List.getD, hi']
  have hk : KT (fun _ => false) (some gt) w (w.setCell ⟨gt, i, none⟩ (.bool true)) := KT.at _
  have hb := h.torn
  unfold Blk at hb
  have hD : ∀ d, Da w B X d → Da (w.setCell ⟨gt, i, none⟩ (.bool true)) B X d := fun d hd => hd.at hk rfl hb (by decide)
  obtain ⟨cp, hcp⟩ := h.pw.blk
  refine ⟨hk.keep _ _ _ _ (fun e => tag_ne h.blk hb (by decide) (Option.some.inj e).symm) rfl h.blk, ?_, ?_, own_heap h.loose fun g' cur hg => (hk.keep _ _ _ _ (fun e => tag_ne hg hb (by decide) (Option.some.inj e).symm) rfl hg).trans hg.symm, by rw [List.length_set]; exact h.ls, h.lx, h.hn, h.hsc,
    ⟨h.low.1, h.low.2.1, h.low.2.2.1, h.low.2.2.2.1, by simpa [World.setCell] using h.low.2.2.2.2⟩, ⟨h.gtB.1, by simpa [World.setCell] using h.gtB.2⟩, fun s hs => ?_, fun x hx => ⟨hD _ (h.dx x hx).1, (h.dx x hx).2⟩, h.pw.kt hk rfl rfl (fun b e => by cases e; exact ⟨h.gtB.1, tag_ne hb hcp (by decide)⟩), h.bel.setCell h.low.2.1 _, h.kt.trans (KT.at _)⟩
  · have hs := h.safe
    unfold Blk at hs ⊢
    rw [set_far _ _ _ _ _ (tag_ne hs hb (by decide)), hs]
    congr 3
    rw [List.map_set]
    congr 1
    refine (List.ext_getElem? fun j => ?_)
    rw [List.getElem?_set]
    split
    · rename_i e
      subst e
      rw [if_pos (by simpa using hi'), List.getElem?_map, List.getElem?_eq_getElem hi', hsd]; rfl
    · rfl
  · have := h.torn.set (j := i) (.bool true)
    rw [List.map_set]
    exact this
  · rcases List.mem_or_eq_of_mem_set hs with hs | rfl
    · exact hD _ (h.ds s hs)
    · rw [hsd]; exact hD _ (h.ds ss[i] (List.getElem_mem hi'))
theorem Ry.lay (h : Ry w0 w B Bp g gp gt gs X life n sc rest lo k lc ss xs P) {i : Nat} (hi : i < n) (d : Part) (hd : Da w B X d) : Ry w0 ((w.setCell ⟨gs, i, none⟩ (.slice d.a d.l d.c)).setCell ⟨gt, i, none⟩ (.bool false)) B Bp g gp gt gs X life n sc rest lo k lc (ss.set i ⟨d, false⟩) xs P := by
  have hi' : i < ss.length := by rw [h.ls]; exact hi
  have hb := h.torn
  have hs := h.safe
  unfold Blk at hb hs
  have hk1 : KT (fun t => t == 36) none w (w.setCell ⟨gs, i, none⟩ (.slice d.a d.l d.c)) := KT.set hs rfl _ _
  have hb1 := hk1.k rfl hb
  have hk2 : KT (fun _ => false) (some gt) (w.setCell ⟨gs, i, none⟩ (.slice d.a d.l d.c)) ((w.setCell ⟨gs, i, none⟩ (.slice d.a d.l d.c)).setCell ⟨gt, i, none⟩ (.bool false)) := KT.at _
  have hk : KT (fun t => t == 36) (some gt) w ((w.setCell ⟨gs, i, none⟩ (.slice d.a d.l d.c)).setCell ⟨gt, i, none⟩ (.bool false)) := hk1.to_.trans (hk2.mono fun _ _ => rfl)
  have hD : ∀ d', Da w B X d' → Da ((w.setCell ⟨gs, i, none⟩ (.slice d.a d.l d.c)).setCell ⟨gt, i, none⟩ (.bool false)) B X d' := fun d' hd => hd.at hk rfl hb (by decide)
  obtain ⟨cp, hcp⟩ := h.pw.blk
  refine ⟨hk.keep _ _ _ _ (fun e => tag_ne h.blk hb (by decide) (Option.some.inj e).symm) rfl h.blk, ?_, ?_, own_heap h.loose fun g' cur hg => (hk.keep _ _ _ _ (fun e => tag_ne hg hb (by decide) (Option.some.inj e).symm) rfl hg).trans hg.symm, by rw [List.length_set]; exact h.ls, h.lx, h.hn, h.hsc,
    ⟨h.low.1, h.low.2.1, h.low.2.2.1, h.low.2.2.2.1, by simpa [World.setCell] using h.low.2.2.2.2⟩, ⟨h.gtB.1, by simpa [World.setCell] using h.gtB.2⟩, fun s hs => ?_, fun x hx => ⟨hD _ (h.dx x hx).1, (h.dx x hx).2⟩, h.pw.kt hk rfl rfl (fun b e => by cases e; exact ⟨h.gtB.1, tag_ne hb hcp (by decide)⟩), (h.bel.setCell h.low.2.2.1 _).setCell h.low.2.1 _, h.kt.trans (hk.mono fun t ht => by unfold KR at ht; simp at ht ⊢; omega)⟩
  · have := h.safe.set (j := i) (.slice d.a d.l d.c)
    rw [List.set_append_left _ _ (by simpa using hi')] at this
    unfold Blk at this ⊢
    rw [set_far _ _ _ _ _ (tag_ne this hb1 (by decide)), List.map_set]
    exact this
  · have hb2 : Blk (w.setCell ⟨gs, i, none⟩ (.slice d.a d.l d.c)) gt 4 (ss.map rtv) := hb1
    have := hb2.set (j := i) (.bool false)
    rw [List.map_set]
    exact this
  · rcases List.mem_or_eq_of_mem_set hs with hs | rfl
    · exact hD _ (h.ds s hs)
    · exact hD _ hd
theorem Ry.live (h : Ry w0 w B Bp g gp gt gs X life n sc rest lo k lc ss xs P) (l : Int) : Ry w0 (w.setCell ⟨g, 1, none⟩ (.int .i64 l)) B Bp g gp gt gs X l n sc rest lo k lc ss xs P := by
  have hb := h.blk
  have hk : KT (fun t => t == 70) none w (w.setCell ⟨g, 1, none⟩ (.int .i64 l)) := KT.set hb rfl _ _
  refine ⟨?_, hk.k rfl h.safe, hk.k rfl h.torn, own_heap h.loose fun g cur hg => (hk.k rfl hg).trans hg.symm, h.ls, h.lx, h.hn, h.hsc,
    ⟨h.low.1, h.low.2.1, h.low.2.2.1, h.low.2.2.2.1, Nat.le_trans h.low.2.2.2.2 hk.size⟩, ⟨h.gtB.1, Nat.le_trans h.gtB.2 hk.size⟩, fun s hs => (h.ds s hs).kt hk rfl (fun _ _ e => by cases e), fun x hx => ⟨(h.dx x hx).1.kt hk rfl (fun _ _ e => by cases e), (h.dx x hx).2⟩,
    h.pw.kt hk rfl rfl (fun _ e => by cases e), h.bel.setCell h.low.1 _, h.kt.trans (hk.to_.mono fun t ht => by unfold KR at ht; simp at ht ⊢; omega)⟩
  have := Joins.block_setCell (i := 1) hb (.int .i64 l)
  simpa using this
theorem Ry.shut (h : Ry w0 w B Bp g gp gt gs X life n sc rest lo k lc ss xs P) : Ry w0 (w.setCell ⟨g, 4, none⟩ (.slice none 0 0)) B Bp g gp gt gs X life n sc rest none 0 0 ss [] P := by
  have hb := h.blk
  have hk : KT (fun t => t == 70) none w (w.setCell ⟨g, 4, none⟩ (.slice none 0 0)) := KT.set hb rfl _ _
  refine ⟨?_, hk.k rfl h.safe, hk.k rfl h.torn, World.ownsRow_nil _ _ _ _, h.ls, rfl, h.hn, h.hsc,
    ⟨h.low.1, h.low.2.1, h.low.2.2.1, h.low.2.2.2.1, Nat.le_trans h.low.2.2.2.2 hk.size⟩, ⟨h.gtB.1, Nat.le_trans h.gtB.2 hk.size⟩, fun s hs => (h.ds s hs).kt hk rfl (fun _ _ e => by cases e), fun x hx => (by cases hx),
    h.pw.kt hk rfl rfl (fun _ e => by cases e), h.bel.setCell h.low.1 _, h.kt.trans (hk.to_.mono fun t ht => by unfold KR at ht; simp at ht ⊢; omega)⟩
  have := Joins.block_setCell (i := 4) hb (.slice none 0 0)
  simpa using this
/-- Its power turns. -/
theorem Ry.turn {P' : PP} (h : Ry w0 w B Bp g gp gt gs X life n sc rest lo k lc ss xs P) (hp : PqM w' Bp gp P') (hB : Below gp w w') (ho : POn gp w w') : Ry w0 w' B Bp g gp gt gs X life n sc rest lo k lc ss xs P' := by
  obtain ⟨cp, hcp⟩ := h.pw.blk
  have hk : KT (fun t => t == 63) none w w' := KT.pon hcp rfl hB.size ho
  exact ⟨hk.k rfl h.blk, hk.k rfl h.safe, hk.k rfl h.torn, own_heap h.loose fun g cur hg => (hk.k rfl hg).trans hg.symm, h.ls, h.lx, h.hn, h.hsc,
    ⟨h.low.1, h.low.2.1, h.low.2.2.1, h.low.2.2.2.1, Nat.le_trans h.low.2.2.2.2 hk.size⟩, ⟨h.gtB.1, Nat.le_trans h.gtB.2 hk.size⟩, fun s hs => (h.ds s hs).kt hk rfl (fun _ _ e => by cases e), fun x hx => ⟨(h.dx x hx).1.kt hk rfl (fun _ _ e => by cases e), (h.dx x hx).2⟩,
    hp, h.bel.trans (hB.mono h.low.2.2.2.1), h.kt.trans (hk.to_.mono fun t ht => by unfold KR at ht; simp at ht ⊢; omega)⟩
theorem Ry.grown_blk (h : Ry w0 w B Bp g gp gt gs X life n sc rest lo k lc ss xs P) (hg : w.grownBy w' (Value.slice lo k lc).ownBlock) : w'.heap[g]? = some (.cells #[.pointer (some ⟨gp, 0, none⟩), .int .i64 life, .slice (some ⟨gs, 0, none⟩) n sc, .slice (some ⟨gt, 0, none⟩) n n, .slice lo k lc] 70 (0, 0)) :=
  (KT.grown (S := fun t => t == 75) (x := Option.none) h.loose rfl hg).k rfl h.blk
theorem Ry.push {lo' : Option Addr} {lc' : Nat} {y : Wr} (h : Ry w0 w B Bp g gp gt gs X life n sc rest lo k lc ss xs P) (hg : w.grownBy w' (Value.slice lo k lc).ownBlock) (ho : w'.ownsRow B 75 2 (.slice lo' (k + 1) lc') (k + 1) (wcs (xs ++ [y])))
    (hd : Da w B X y.d) (hi : y.i < n) : Ry w0 (w'.setCell ⟨g, 4, none⟩ (.slice lo' (k + 1) lc')) B Bp g gp gt gs X life n sc rest lo' (k + 1) lc' ss (xs ++ [y]) P := by
  have hk : KT (fun t => t == 75) Option.none w w' := KT.grown h.loose rfl hg
  have hblk := h.grown_blk hg
  have hk2 : KT (fun t => t == 75 || t == 70) Option.none w (w'.setCell ⟨g, 4, none⟩ (.slice lo' (k + 1) lc')) :=
    (hk.mono fun t ht => by simp at ht ⊢; exact ht.1).trans (KT.set hblk (by decide) _ _)
  have hD : ∀ d, Da w B X d → Da (w'.setCell ⟨g, 4, none⟩ (.slice lo' (k + 1) lc')) B X d := fun d hd => hd.kt hk2 rfl (fun _ _ e => by cases e)
  have hB : Below B w (w'.setCell ⟨g, 4, none⟩ (.slice lo' (k + 1) lc')) := (Below.grown (Below.refl _ _) hg h.low.2.2.2.2 (own_ge2 h.loose)).setCell h.low.1 _
  refine ⟨?_, hk2.k rfl h.safe, hk2.k rfl h.torn, DkB.own_set' ho hblk (by decide) _ _, h.ls, by simp [h.lx], h.hn, h.hsc, ⟨h.low.1, h.low.2.1, h.low.2.2.1, h.low.2.2.2.1, Nat.le_trans h.low.2.2.2.2 hB.size⟩, ⟨h.gtB.1, Nat.le_trans h.gtB.2 hB.size⟩,
    fun s hs => hD _ (h.ds s hs), fun x hx => ?_, h.pw.kt hk2 rfl rfl (fun _ e => by cases e), h.bel.trans hB, h.kt.trans (hk2.to_.mono fun t ht => by unfold KR at ht; simp at ht ⊢; omega)⟩
  · have := Joins.block_setCell (i := 4) hblk (.slice lo' (k + 1) lc')
    simpa using this
  · rcases List.mem_append.1 hx with hx | hx
    · exact ⟨hD _ (h.dx x hx).1, (h.dx x hx).2⟩
    · obtain rfl := List.mem_singleton.1 hx
      exact ⟨hD _ hd, hi⟩
end

end Go.Proofs.Ytaajdaikfabchaa
