/-
  The disk in memory: sectors, writes, what stays.
-/
import Derived.Test.YtaajdaikfabchaaPow
namespace Go.Proofs.Ytaajdaikfabchaa
open Go.RowKit
set_option linter.unusedVariables false

/-- Blocks of other kinds than S, but for block x, stay. -/
structure KT (S : Nat → Bool) (x : Option Nat) (w w' : World) : Prop where
  size : w.heap.size ≤ w'.heap.size
  keep : ∀ b cs t fr, x ≠ some b → S t = false → w.heap[b]? = some (.cells cs t fr) → w'.heap[b]? = some (.cells cs t fr)
theorem KT.refl (S : Nat → Bool) (x : Option Nat) (w : World) : KT S x w w := ⟨Nat.le_refl _, fun _ _ _ _ _ _ h => h⟩
theorem KT.trans {S : Nat → Bool} {x : Option Nat} {a b c : World} (h : KT S x a b) (k : KT S x b c) : KT S x a c :=
  ⟨Nat.le_trans h.size k.size, fun b cs t fr h1 h2 h3 => k.keep b cs t fr h1 h2 (h.keep b cs t fr h1 h2 h3)⟩
theorem KT.mono {S S' : Nat → Bool} {x : Option Nat} {a b : World} (h : KT S x a b) (hS : ∀ t, S' t = false → S t = false) : KT S' x a b :=
  ⟨h.size, fun b cs t fr h1 h2 h3 => h.keep b cs t fr h1 (hS t h2) h3⟩
theorem KT.below (S : Nat → Bool) (x : Option Nat) {w w' : World} (h : Below w.heap.size w w') : KT S x w w' :=
  ⟨h.size, fun b cs t fr _ _ hb => by rw [h.block b (Array.getElem?_eq_some_iff.1 hb).1]; exact hb⟩
theorem KT.set {S : Nat → Bool} {x : Option Nat} {w : World} {g t : Nat} {cs : Array Value} {fr : Nat × Nat} (hg : w.heap[g]? = some (.cells cs t fr)) (hS : S t = true) (i : Nat) (u : Value) : KT S x w (w.setCell ⟨g, i, none⟩ u) :=
  ⟨by simp [World.setCell], fun b cs' t' fr' _ h2 hb => by
    have hne : b ≠ g := fun e => by
      subst e
      rw [hg] at hb
      simp only [Option.some.injEq, Obj.cells.injEq] at hb
      rw [← hb.2.1, hS] at h2
      cases h2
    rw [set_far _ _ _ _ _ hne]; exact hb⟩
theorem KT.pon {S : Nat → Bool} {x : Option Nat} {w w' : World} {g t : Nat} {cs : Array Value} {fr : Nat × Nat} (hg : w.heap[g]? = some (.cells cs t fr)) (hS : S t = true) (hs : w.heap.size ≤ w'.heap.size) (h : POn g w w') : KT S x w w' :=
  ⟨hs, fun b cs' t' fr' _ h2 hb => by
    have hne : b ≠ g := fun e => by
      subst e
      rw [hg] at hb
      simp only [Option.some.injEq, Obj.cells.injEq] at hb
      rw [← hb.2.1, hS] at h2
      cases h2
    rw [h b (Array.getElem?_eq_some_iff.1 hb).1 hne]; exact hb⟩
theorem KT.grown {S : Nat → Bool} {x : Option Nat} {w w' : World} {base t n size : Nat} {v : Value} {xs : List Value} (ho : w.ownsRow base t size v n xs) (hS : S t = true) (hg : w.grownBy w' v.ownBlock) : KT S x w w' :=
  ⟨hg.size, fun b cs' t' fr' _ h2 hb => by
    have hlt := (Array.getElem?_eq_some_iff.1 hb).1
    have hne : some b ≠ v.ownBlock := by
      intro e'
      rcases ho.2 with ⟨q', _⟩ | ⟨g', cap, cur', q1, q2, q3, q4⟩
      · subst q'; cases e'
      · subst q1
        cases e'
        rw [q3] at hb
        simp only [Option.some.injEq, Obj.cells.injEq] at hb
        rw [← hb.2.1, hS] at h2
        cases h2
    rw [hg.block b hlt hne]; exact hb⟩
theorem Own1.kt {S : Nat → Bool} {x : Option Nat} {w w' : World} {q : Part} (h : Own1 w q) (hk : KT S x w w') (hS : S 5 = false) (hx : ∀ g, q.a = some ⟨g, 0, none⟩ → x ≠ some g) : Own1 w' q := by
  rcases h.2 with h2 | ⟨g, cur, h2, h3⟩
  · have hz : q.z = [] := by
      rcases h.1.rd with h4 | ⟨b, o, h4, _⟩
      · exact h4
      · rw [h2] at h4; cases h4
    exact ⟨⟨.inl hz, h.1.len, h.1.bts, h.1.small, h.1.nil, h.1.room⟩, .inl h2⟩
  · have hb := hk.keep g _ _ _ (hx g h2) hS h3
    refine ⟨⟨?_, h.1.len, h.1.bts, h.1.small, h.1.nil, h.1.room⟩, .inr ⟨g, cur, h2, hb⟩⟩
    rcases h.1.rd with h4 | ⟨b, o, ha, hc⟩
    · exact .inl h4
    · rw [h2] at ha
      cases ha
      exact .inr ⟨g, 0, h2, fun j hj => by rw [← hc j hj]; exact World.cell?_of_block (hb.trans h3.symm)⟩
theorem own_heap {w w' : World} {base e n size : Nat} {v : Value} {xs : List Value} (h : w.ownsRow base e size v n xs) (hh : ∀ (g : Nat) (cur : Array Value), w.heap[g]? = some (Obj.cells cur e (0, 0)) → w'.heap[g]? = w.heap[g]?) : w'.ownsRow base e size v n xs := by
  refine ⟨h.1, ?_⟩
  rcases h.2 with h2 | ⟨g, cap, cur, q1, q2, q3, q4⟩
  · exact .inl h2
  · exact .inr ⟨g, cap, cur, q1, q2, by rw [hh g cur q3]; exact q3, q4⟩
theorem tag_ne {w : World} {g g' t t' : Nat} {cs cs' : Array Value} {fr fr' : Nat × Nat} (h : w.heap[g]? = some (.cells cs t fr)) (h' : w.heap[g']? = some (.cells cs' t' fr')) (hne : t ≠ t') : g ≠ g' := fun e => by
  subst e
  rw [h] at h'
  simp only [Option.some.injEq, Obj.cells.injEq] at h'
  exact hne h'.2.1

/-- Two cells an element. -/
def two {α : Type} (f g : α → Value) (l : List α) : List Value := l.flatMap fun x => [f x, g x]
theorem two_cons {α : Type} (f g : α → Value) (x : α) (l : List α) : two f g (x :: l) = f x :: g x :: two f g l := rfl
theorem two_len {α : Type} (f g : α → Value) (l : List α) : (two f g l).length = l.length * 2 := by
  induction l with
  | nil => rfl
  | cons x l ih => rw [two_cons, List.length_cons, List.length_cons, ih, List.length_cons]; omega
theorem two_snoc {α : Type} (f g : α → Value) (l : List α) (x : α) : two f g (l ++ [x]) = two f g l ++ [f x, g x] := by
  unfold two; rw [List.flatMap_append]; simp only [List.flatMap_cons, List.flatMap_nil, List.append_nil]
theorem two_get {α : Type} (f g : α → Value) (l : List α) : ∀ i, (h : i < l.length) → (two f g l)[i * 2]? = some (f l[i]) ∧ (two f g l)[i * 2 + 1]? = some (g l[i]) := by
  induction l with
  | nil => intro i h; exact absurd h (Nat.not_lt_zero _)
  | cons x l ih =>
    intro i h
    cases i with
    | zero => rw [two_cons]; exact ⟨rfl, rfl⟩
    | succ i =>
      obtain ⟨h1, h2⟩ := ih i (by simp at h; omega)
      rw [two_cons, show (i + 1) * 2 = i * 2 + 2 by omega]
      exact ⟨h1, h2⟩
theorem two_set {α : Type} (f g : α → Value) (x : α) (l : List α) : ∀ i, i < l.length → ((two f g l).set (i * 2) (f x)).set (i * 2 + 1) (g x) = two f g (l.set i x) := by
  induction l with
  | nil => intro i h; exact absurd h (Nat.not_lt_zero _)
  | cons y l ih =>
    intro i h
    cases i with
    | zero => rfl
    | succ i =>
      have := ih i (by simp at h; omega)
      rw [two_cons, show (i + 1) * 2 = i * 2 + 1 + 1 by omega, List.set_cons_succ, List.set_cons_succ, List.set_cons_succ, List.set_cons_succ, this]; rfl
theorem two_set2 {α : Type} (f g : α → Value) (x : α) (l : List α) : ∀ i, (h : i < l.length) → f x = f l[i] → (two f g l).set (i * 2 + 1) (g x) = two f g (l.set i x) := by
  induction l with
  | nil => intro i h; exact absurd h (Nat.not_lt_zero _)
  | cons y l ih =>
    intro i h e
    cases i with
    | zero => simp only [List.getElem_cons_zero] at e; rw [two_cons]; show f y :: g x :: two f g l = f x :: g x :: two f g l; rw [e]
    | succ i =>
      have := ih i (by simp at h; omega) (by simpa using e)
      rw [two_cons, show (i + 1) * 2 + 1 = i * 2 + 1 + 1 + 1 by omega, List.set_cons_succ, List.set_cons_succ, this]; rfl

/-- A sector as it lies. -/
structure Sec where
  d : Part
  t : Bool
/-- A write that is not safe. -/
structure Wr where
  i : Nat
  d : Part
def Part.none : Part := ⟨Option.none, 0, 0, []⟩
def Sec.none : Sec := ⟨Part.none, false⟩
def scs (ss : List Sec) : List Value := two (fun s => .slice s.d.a s.d.l s.d.c) (fun s => .bool s.t) ss
def wcs (xs : List Wr) : List Value := two (fun x => .int .i64 x.i) (fun x => .slice x.d.a x.d.l x.d.c) xs
theorem Blk.sec {w : World} {g : Nat} {ss : List Sec} (h : Blk w g 73 (scs ss)) {i : Nat} (hi : i < ss.length) : w.cell? ⟨g, i * 2, Option.none⟩ = some (.slice ss[i].d.a ss[i].d.l ss[i].d.c) ∧ w.cell? ⟨g, i * 2 + 1, Option.none⟩ = some (.bool ss[i].t) := by
  obtain ⟨h1, h2⟩ := two_get (fun s : Sec => .slice s.d.a s.d.l s.d.c) (fun s => .bool s.t) ss i hi
  have hl := two_len (fun s : Sec => .slice s.d.a s.d.l s.d.c) (fun s => .bool s.t) ss
  have e1 := h.cell (j := i * 2) (by unfold scs; omega)
  have e2 := h.cell (j := i * 2 + 1) (by unfold scs; omega)
  unfold scs at e1 e2
  rw [List.getD, h1] at e1
  rw [List.getD, h2] at e2
  exact ⟨e1, e2⟩
/-- Bytes of a sector: none, or 256 in a block of their own. -/
def Dat (w : World) (B : Nat) (d : Part) : Prop := d = Part.none ∨ (d.l = 256 ∧ Own1 w d ∧ ∃ g, d.a = some ⟨g, 0, Option.none⟩ ∧ B ≤ g)
theorem Dat.kt {S : Nat → Bool} {x : Option Nat} {w w' : World} {B : Nat} {d : Part} (h : Dat w B d) (hk : KT S x w w') (hS : S 5 = false) (hx : ∀ g, d.a = some ⟨g, 0, Option.none⟩ → x ≠ some g) : Dat w' B d := by
  rcases h with h | ⟨h1, h2, h3⟩
  · exact .inl h
  · exact .inr ⟨h1, h2.kt hk hS hx, h3⟩
theorem Dat.tag {w : World} {B : Nat} {d : Part} (h : Dat w B d) {g : Nat} (hg : d.a = some ⟨g, 0, Option.none⟩) : ∃ cur, w.heap[g]? = some (.cells cur 5 (0, 0)) := by
  rcases h with h | ⟨_, h2, _⟩
  · rw [h] at hg; cases hg
  · rcases h2.2 with h4 | ⟨g', cur, h4, h5⟩
    · rw [h4] at hg; cases hg
    · rw [h4] at hg; cases hg; exact ⟨cur, h5⟩
/-- THE DISK IN MEMORY. -/
structure DkB (w : World) (B g gp gn gs : Nat) (life : Int) (n : Nat) (oo : Option Addr) (k oc : Nat) (ns ss : List Sec) (xs : List Wr) : Prop where
  blk : w.heap[g]? = some (.cells #[.pointer (some ⟨gp, 0, Option.none⟩), .int .i64 life, .slice (some ⟨gn, 0, Option.none⟩) n n, .slice (some ⟨gs, 0, Option.none⟩) n n, .slice oo k oc] 67 (0, 0))
  now : Blk w gn 73 (scs ns)
  safe : Blk w gs 73 (scs ss)
  opn : w.ownsRow B 77 2 (.slice oo k oc) k (wcs xs)
  ln : ns.length = n
  ls : ss.length = n
  lx : xs.length = k
  ne : gn ≠ gs
  hn : 1 ≤ n ∧ n ≤ 600
  low : B ≤ g ∧ B ≤ gn ∧ B ≤ gs ∧ B ≤ gp ∧ B ≤ w.heap.size
  dn : ∀ s ∈ ns, Dat w B s.d
  ds : ∀ s ∈ ss, Dat w B s.d
  dx : ∀ x ∈ xs, Dat w B x.d ∧ x.i < n ∧ x.d.a ≠ Option.none
/-- The kinds of blocks that the disk writes. -/
def KD (t : Nat) : Bool := t == 61 || t == 67 || t == 73 || t == 77
section
variable {w w' : World} {B g gp gn gs : Nat} {life : Int} {n : Nat} {oo : Option Addr} {k oc : Nat} {ns ss : List Sec} {xs : List Wr}
theorem DkB.below (h : DkB w B g gp gn gs life n oo k oc ns ss xs) (hB : Below w.heap.size w w') : DkB w' B g gp gn gs life n oo k oc ns ss xs := by
  have hk : KT (fun _ => false) Option.none w w' := KT.below _ _ hB
  exact ⟨hk.keep _ _ _ _ nofun rfl h.blk, hk.keep _ _ _ _ nofun rfl h.now, hk.keep _ _ _ _ nofun rfl h.safe, own_heap h.opn fun g cur hg => hB.block g (Array.getElem?_eq_some_iff.1 hg).1, h.ln, h.ls, h.lx, h.ne, h.hn,
    ⟨h.low.1, h.low.2.1, h.low.2.2.1, h.low.2.2.2.1, Nat.le_trans h.low.2.2.2.2 hB.size⟩, fun s hs => (h.dn s hs).kt hk rfl (fun _ _ => nofun), fun s hs => (h.ds s hs).kt hk rfl (fun _ _ => nofun), fun x hx => ⟨(h.dx x hx).1.kt hk rfl (fun _ _ => nofun), (h.dx x hx).2⟩⟩
/-- What stays of it where blocks of other kinds are written. -/
theorem DkB.kt {S : Nat → Bool} {x : Option Nat} (h : DkB w B g gp gn gs life n oo k oc ns ss xs) (hk : KT S x w w') (h5 : S 5 = false) (h67 : S 67 = false) (h73 : S 73 = false) (h77 : S 77 = false)
    (hx : ∀ b cs t fr, x = some b → w.heap[b]? = some (.cells cs t fr) → t ≠ 5 ∧ t ≠ 67 ∧ t ≠ 73 ∧ t ≠ 77) : DkB w' B g gp gn gs life n oo k oc ns ss xs := by
  have hd : ∀ d, Dat w B d → Dat w' B d := fun d hd => hd.kt hk h5 fun g hg e => by
    obtain ⟨cur, hc⟩ := hd.tag hg
    exact (hx g _ _ _ e hc).1 rfl
  exact ⟨hk.keep _ _ _ _ (fun e => (hx _ _ _ _ e h.blk).2.1 rfl) h67 h.blk, hk.keep _ _ _ _ (fun e => (hx _ _ _ _ e h.now).2.2.1 rfl) h73 h.now, hk.keep _ _ _ _ (fun e => (hx _ _ _ _ e h.safe).2.2.1 rfl) h73 h.safe,
    own_heap h.opn fun g cur hg => (hk.keep _ _ _ _ (fun e => (hx _ _ _ _ e hg).2.2.2 rfl) h77 hg).trans hg.symm, h.ln, h.ls, h.lx, h.ne, h.hn,
    ⟨h.low.1, h.low.2.1, h.low.2.2.1, h.low.2.2.2.1, Nat.le_trans h.low.2.2.2.2 hk.size⟩, fun s hs => hd _ (h.dn s hs), fun s hs => hd _ (h.ds s hs), fun x hx => ⟨hd _ (h.dx x hx).1, (h.dx x hx).2⟩⟩
/-- A block of the disk's is no block of bytes. -/
theorem DkB.dat_set {d : Part} (hd : Dat w B d) {b t : Nat} {cs : Array Value} {fr : Nat × Nat} (hb : w.heap[b]? = some (.cells cs t fr)) (ht : t ≠ 5) (i : Nat) (u : Value) : Dat (w.setCell ⟨b, i, Option.none⟩ u) B d :=
  hd.kt (KT.set (S := fun s => s == t) (x := Option.none) hb (by simp) i u) (by simp; omega) (fun _ _ => nofun)
theorem DkB.own_set {v : Value} {m : Nat} {zs : List Value} (h : w.ownsRow B 77 2 v m zs) {b t : Nat} {cs : Array Value} {fr : Nat × Nat} (hb : w.heap[b]? = some (.cells cs t fr)) (ht : t ≠ 77) (i : Nat) (u : Value) : (w.setCell ⟨b, i, Option.none⟩ u).ownsRow B 77 2 v m zs :=
  own_heap h fun g cur hg => set_far _ _ _ _ _ (tag_ne hg hb (Ne.symm ht))
theorem blk_set_other {t b t' : Nat} {cs : Array Value} {fr fr' : Nat × Nat} {g : Nat} {cs' : Array Value} (h : w.heap[g]? = some (.cells cs' t' fr')) (hb : w.heap[b]? = some (.cells cs t fr)) (hne : g ≠ b) (i : Nat) (u : Value) : (w.setCell ⟨b, i, Option.none⟩ u).heap[g]? = some (.cells cs' t' fr') := by
  rw [set_far _ _ _ _ _ hne]; exact h
/-- A safe sector is torn. -/
theorem DkB.tear (h : DkB w B g gp gn gs life n oo k oc ns ss xs) {i : Nat} (hi : i < n) : DkB (w.setCell ⟨gs, i * 2 + 1, Option.none⟩ (.bool true)) B g gp gn gs life n oo k oc ns (ss.set i ⟨(ss.getD i Sec.none).d, true⟩) xs := by
  have hi' : i < ss.length := by rw [h.ls]; exact hi
  have hsd : ss.getD i Sec.none = ss[i] := by simp [List.getD, hi']
  have hb := h.safe
  unfold Blk at hb
  refine ⟨blk_set_other h.blk hb (tag_ne h.blk hb (by decide)) _ _, blk_set_other h.now hb h.ne _ _, ?_, DkB.own_set h.opn hb (by decide) _ _, h.ln, by rw [List.length_set]; exact h.ls, h.lx, h.ne, h.hn, ⟨h.low.1, h.low.2.1, h.low.2.2.1, h.low.2.2.2.1, by simpa [World.setCell] using h.low.2.2.2.2⟩,
    fun s hs => DkB.dat_set (h.dn s hs) hb (by decide) _ _, fun s hs => ?_, fun x hx => ⟨DkB.dat_set (h.dx x hx).1 hb (by decide) _ _, (h.dx x hx).2⟩⟩
  · have := h.safe.set (j := i * 2 + 1) (.bool true)
    rw [hsd]
    unfold scs at this ⊢
    rw [← two_set2 (fun s : Sec => .slice s.d.a s.d.l s.d.c) (fun s => .bool s.t) ⟨ss[i].d, true⟩ ss i hi' rfl]
    exact this
  · refine DkB.dat_set ?_ hb (by decide) _ _
    rcases List.mem_or_eq_of_mem_set hs with hs | rfl
    · exact h.ds s hs
    · rw [hsd]; exact h.ds ss[i] (List.getElem_mem hi')
/-- A safe sector is laid anew. -/
theorem DkB.lay (h : DkB w B g gp gn gs life n oo k oc ns ss xs) {i : Nat} (hi : i < n) (s : Sec) (hd : Dat w B s.d) : DkB ((w.setCell ⟨gs, i * 2, Option.none⟩ (.slice s.d.a s.d.l s.d.c)).setCell ⟨gs, i * 2 + 1, Option.none⟩ (.bool s.t)) B g gp gn gs life n oo k oc ns (ss.set i s) xs := by
  have hi' : i < ss.length := by rw [h.ls]; exact hi
  have hb := h.safe
  have h1 := h.safe.set (j := i * 2) (.slice s.d.a s.d.l s.d.c)
  have h2 := h1.set (j := i * 2 + 1) (.bool s.t)
  unfold Blk at hb h1
  have hD : ∀ d, Dat w B d → Dat ((w.setCell ⟨gs, i * 2, Option.none⟩ (.slice s.d.a s.d.l s.d.c)).setCell ⟨gs, i * 2 + 1, Option.none⟩ (.bool s.t)) B d := fun d hd => DkB.dat_set (DkB.dat_set hd hb (by decide) _ _) h1 (by decide) _ _
  refine ⟨?_, ?_, ?_, DkB.own_set (DkB.own_set h.opn hb (by decide) _ _) h1 (by decide) _ _, h.ln, by rw [List.length_set]; exact h.ls, h.lx, h.ne, h.hn, ⟨h.low.1, h.low.2.1, h.low.2.2.1, h.low.2.2.2.1, by simpa [World.setCell] using h.low.2.2.2.2⟩,
    fun s hs => hD _ (h.dn s hs), fun s' hs => ?_, fun x hx => ⟨hD _ (h.dx x hx).1, (h.dx x hx).2⟩⟩
  · rw [set_far _ _ _ _ _ (tag_ne h.blk hb (by decide)), set_far _ _ _ _ _ (tag_ne h.blk hb (by decide))]; exact h.blk
  · unfold Blk; rw [set_far _ _ _ _ _ h.ne, set_far _ _ _ _ _ h.ne]; exact h.now
  · unfold scs at h2 ⊢
    rw [two_set (fun s : Sec => .slice s.d.a s.d.l s.d.c) (fun s => .bool s.t) s ss i hi'] at h2
    exact h2
  · refine hD _ ?_
    rcases List.mem_or_eq_of_mem_set hs with hs | rfl
    · exact h.ds s' hs
    · exact hd
/-- What is read is laid anew. -/
theorem DkB.put (h : DkB w B g gp gn gs life n oo k oc ns ss xs) {i : Nat} (hi : i < n) (s : Sec) (hd : Dat w B s.d) : DkB ((w.setCell ⟨gn, i * 2, Option.none⟩ (.slice s.d.a s.d.l s.d.c)).setCell ⟨gn, i * 2 + 1, Option.none⟩ (.bool s.t)) B g gp gn gs life n oo k oc (ns.set i s) ss xs := by
  have hi' : i < ns.length := by rw [h.ln]; exact hi
  have hb := h.now
  have h1 := h.now.set (j := i * 2) (.slice s.d.a s.d.l s.d.c)
  have h2 := h1.set (j := i * 2 + 1) (.bool s.t)
  unfold Blk at hb h1
  have hD : ∀ d, Dat w B d → Dat ((w.setCell ⟨gn, i * 2, Option.none⟩ (.slice s.d.a s.d.l s.d.c)).setCell ⟨gn, i * 2 + 1, Option.none⟩ (.bool s.t)) B d := fun d hd => DkB.dat_set (DkB.dat_set hd hb (by decide) _ _) h1 (by decide) _ _
  refine ⟨?_, ?_, ?_, DkB.own_set (DkB.own_set h.opn hb (by decide) _ _) h1 (by decide) _ _, by rw [List.length_set]; exact h.ln, h.ls, h.lx, h.ne, h.hn, ⟨h.low.1, h.low.2.1, h.low.2.2.1, h.low.2.2.2.1, by simpa [World.setCell] using h.low.2.2.2.2⟩,
    fun s' hs => ?_, fun s hs => hD _ (h.ds s hs), fun x hx => ⟨hD _ (h.dx x hx).1, (h.dx x hx).2⟩⟩
  · rw [set_far _ _ _ _ _ (tag_ne h.blk hb (by decide)), set_far _ _ _ _ _ (tag_ne h.blk hb (by decide))]; exact h.blk
  · unfold scs at h2 ⊢
    rw [two_set (fun s : Sec => .slice s.d.a s.d.l s.d.c) (fun s => .bool s.t) s ns i hi'] at h2
    exact h2
  · unfold Blk; rw [set_far _ _ _ _ _ h.ne.symm, set_far _ _ _ _ _ h.ne.symm]; exact h.safe
  · refine hD _ ?_
    rcases List.mem_or_eq_of_mem_set hs with hs | rfl
    · exact h.dn s' hs
    · exact hd
/-- Its life is written. -/
theorem DkB.live (h : DkB w B g gp gn gs life n oo k oc ns ss xs) (l : Int) : DkB (w.setCell ⟨g, 1, Option.none⟩ (.int .i64 l)) B g gp gn gs l n oo k oc ns ss xs := by
  have hb := h.blk
  refine ⟨?_, blk_set_other h.now hb (tag_ne h.now hb (by decide)) _ _, blk_set_other h.safe hb (tag_ne h.safe hb (by decide)) _ _, DkB.own_set h.opn hb (by decide) _ _, h.ln, h.ls, h.lx, h.ne, h.hn, ⟨h.low.1, h.low.2.1, h.low.2.2.1, h.low.2.2.2.1, by simpa [World.setCell] using h.low.2.2.2.2⟩,
    fun s hs => DkB.dat_set (h.dn s hs) hb (by decide) _ _, fun s hs => DkB.dat_set (h.ds s hs) hb (by decide) _ _, fun x hx => ⟨DkB.dat_set (h.dx x hx).1 hb (by decide) _ _, (h.dx x hx).2⟩⟩
  have := Joins.block_setCell (i := 1) hb (.int .i64 l)
  simpa using this
/-- Nothing is open. -/
theorem DkB.shut (h : DkB w B g gp gn gs life n oo k oc ns ss xs) : DkB (w.setCell ⟨g, 4, Option.none⟩ (.slice Option.none 0 0)) B g gp gn gs life n Option.none 0 0 ns ss [] := by
  have hb := h.blk
  refine ⟨?_, blk_set_other h.now hb (tag_ne h.now hb (by decide)) _ _, blk_set_other h.safe hb (tag_ne h.safe hb (by decide)) _ _, World.ownsRow_nil _ _ _ _, h.ln, h.ls, rfl, h.ne, h.hn, ⟨h.low.1, h.low.2.1, h.low.2.2.1, h.low.2.2.2.1, by simpa [World.setCell] using h.low.2.2.2.2⟩,
    fun s hs => DkB.dat_set (h.dn s hs) hb (by decide) _ _, fun s hs => DkB.dat_set (h.ds s hs) hb (by decide) _ _, fun x hx => by cases hx⟩
  have := Joins.block_setCell (i := 4) hb (.slice Option.none 0 0)
  simpa using this
theorem DkB.c (h : DkB w B g gp gn gs life n oo k oc ns ss xs) : w.cell? ⟨g, 0, Option.none⟩ = some (.pointer (some ⟨gp, 0, Option.none⟩)) ∧ w.cell? ⟨g, 1, Option.none⟩ = some (.int .i64 life) ∧ w.cell? ⟨g, 2, Option.none⟩ = some (.slice (some ⟨gn, 0, Option.none⟩) n n) ∧ w.cell? ⟨g, 3, Option.none⟩ = some (.slice (some ⟨gs, 0, Option.none⟩) n n) ∧ w.cell? ⟨g, 4, Option.none⟩ = some (.slice oo k oc) ∧ (∀ i, w.frozen? ⟨g, i, Option.none⟩ = false) ∧ (∀ i, w.frozen? ⟨gn, i, Option.none⟩ = false) ∧ (∀ i, w.frozen? ⟨gs, i, Option.none⟩ = false) :=
  ⟨by rw [Joins.cell_of_block h.blk]; rfl, by rw [Joins.cell_of_block h.blk]; rfl, by rw [Joins.cell_of_block h.blk]; rfl, by rw [Joins.cell_of_block h.blk]; rfl, by rw [Joins.cell_of_block h.blk]; rfl, fun i => Joins.unfrozen_of_block h.blk i, fun i => h.now.free, fun i => h.safe.free⟩
theorem DkB.wr (h : DkB w B g gp gn gs life n oo k oc ns ss xs) {j : Nat} (hj : j < xs.length) : ∃ gx, oo = some ⟨gx, 0, Option.none⟩ ∧ w.cell? ⟨gx, j * 2, Option.none⟩ = some (.int .i64 xs[j].i) ∧ w.cell? ⟨gx, j * 2 + 1, Option.none⟩ = some (.slice xs[j].d.a xs[j].d.l xs[j].d.c) := by
  have hlx := h.lx
  rcases h.opn.2 with ⟨q, hn⟩ | ⟨gx, c, cur, q, _⟩
  · omega
  · simp only [Value.slice.injEq] at q
    obtain ⟨rfl, _, rfl⟩ := q
    obtain ⟨c0, c1⟩ := two_get (fun x : Wr => .int .i64 x.i) (fun x => .slice x.d.a x.d.l x.d.c) xs j hj
    exact ⟨gx, rfl, by rw [h.opn.cellAt (j * 2) (by omega)]; exact c0, by rw [h.opn.cellAt (j * 2 + 1) (by omega)]; exact c1⟩
end

end Go.Proofs.Ytaajdaikfabchaa
