/-
  The document's power: contracts of its methods, over the same plain record.
-/
import Derived.Test.YtmcbmemgeegodaaDr2
import Derived.Laws.AppendOwnNone
namespace Go.Proofs.Ytmcbmemgeegodaa
open Go.RowKit
set_option linter.unusedVariables false

/-- The document's power in memory. -/
def Pq (w : World) (g : Nat) (off : Bool) (life due : Int) (k2 : Value) (t2 : Int) (k1 : Value) (t1 : Int) : Prop :=
  w.heap[g]? = some (.cells #[.bool off, .int .i64 life, .int .i64 due, k2, .int .i64 t2, k1, .int .i64 t1] 80 (0, 0))
theorem Pq.lt {w : World} {g : Nat} {off : Bool} {life due : Int} {k2 : Value} {t2 : Int} {k1 : Value} {t1 : Int} (h : Pq w g off life due k2 t2 k1 t1) : g < w.heap.size := (Array.getElem?_eq_some_iff.1 h).1
theorem Pq.c {w : World} {g : Nat} {off : Bool} {life due : Int} {k2 : Value} {t2 : Int} {k1 : Value} {t1 : Int} (h : Pq w g off life due k2 t2 k1 t1) :
    w.cell? ⟨g, 0, none⟩ = some (.bool off) ∧ w.cell? ⟨g, 1, none⟩ = some (.int .i64 life) ∧ w.cell? ⟨g, 2, none⟩ = some (.int .i64 due) ∧ w.cell? ⟨g, 3, none⟩ = some k2 ∧ w.cell? ⟨g, 4, none⟩ = some (.int .i64 t2) ∧
    w.cell? ⟨g, 5, none⟩ = some k1 ∧ w.cell? ⟨g, 6, none⟩ = some (.int .i64 t1) ∧ ∀ i, w.frozen? ⟨g, i, none⟩ = false :=
  ⟨by rw [Joins.cell_of_block h]; rfl, by rw [Joins.cell_of_block h]; rfl, by rw [Joins.cell_of_block h]; rfl, by rw [Joins.cell_of_block h]; rfl, by rw [Joins.cell_of_block h]; rfl, by rw [Joins.cell_of_block h]; rfl, by rw [Joins.cell_of_block h]; rfl, fun i => Joins.unfrozen_of_block h i⟩
theorem Pq.kept {w w' : World} {g : Nat} {off : Bool} {life due : Int} {k2 : Value} {t2 : Int} {k1 : Value} {t1 : Int} (h : Pq w g off life due k2 t2 k1 t1) (hB : Below w.heap.size w w') : Pq w' g off life due k2 t2 k1 t1 := by
  unfold Pq at *
  rw [hB.block g (Array.getElem?_eq_some_iff.1 h).1, h]

/-- Append of bools to nothing. -/
theorem append_bools {w : World} {ops : Array Oper} {rest : List Oper} {o : Oper} {a : Act} {Q : Exit → Act → World → Prop} (hgd : o.guard = none) (s x : Operand)
    (ho : o.op = .call { callee := .builtin .append, args := #[s, x], argTypes := #[74, 74] })
    (ao : Option Addr) (n cap : Nat) (bs : List Bool) (hs : a.eval s = .slice none 0 0) (hx : a.eval x = .slice ao n cap) (hl : bs.length = n) (hm : n ≤ 1000000) (hb : Bl w ao bs) (hn : ao = none → n = 0 ∧ cap = 0)
    (h : ∀ ko kc w', Lst w' w.heap.size ko n kc bs → Below w.heap.size w w' → wpList Try.prog ops Q rest (a.put o.dst (.slice ko n kc)) w') : wpList Try.prog ops Q (o :: rest) a w := by
  obtain ⟨i0, hi, hz0, hz1, hz2⟩ := info_parts Try.info4
  have hown : w.ownsRow w.heap.size 4 1 (.slice none 0 0) 0 [] := World.ownsRow_nil _ _ _ _
  cases ao with
  | none =>
    obtain ⟨rfl, rfl⟩ := hn rfl
    refine wpList_append_own_none hgd s x 74 ho w.heap.size 4 i0 1 Try.underlying74 hi _ 0 _ hs hown hx ?_
    exact h none 0 w ⟨hl, hm, fun _ => ⟨rfl, rfl⟩, .inl (List.eq_nil_of_length_eq_zero hl)⟩ (Below.refl _ _)
  | some ad =>
    refine wpList_append_own _ hgd s x 74 ho w.heap.size 4 i0 (.bool false) 1 1 Try.underlying74 hi hz0 hz1 hz2 rfl (by decide) _ 0 _ hs hown ad n cap (bs.map .bool) hx (by simp [hl]) hb.cells (bools_oneCell _) (by unfold maxLen; omega) (by omega) (Nat.le_refl _) ?_
    intro v' w1 hown1 hgrow1 hnil
    have hB1 := Below.grown (Below.refl w.heap.size w) hgrow1 (Nat.le_refl _) (fun k h => by cases h)
    have hv : ∃ ko kc, v' = .slice ko n kc ∧ Lst w1 w.heap.size ko n kc bs := by
      rcases hown1.2 with ⟨h1, h2⟩ | ⟨g', cap', cur, h1, hge, hh, _, _, _, _⟩
      · have h2' : n = 0 := by omega
        subst h2'
        exact ⟨none, 0, h1, hl, hm, fun _ => ⟨rfl, rfl⟩, .inl (List.eq_nil_of_length_eq_zero hl)⟩
      · refine ⟨some ⟨g', 0, none⟩, cap', by rw [h1, Nat.zero_add], hl, hm, fun h => by simp at h, .inr ⟨g', cur, (0, 0), rfl, hge, hh, fun j hj => ?_⟩⟩
        subst h1
        have := hown1.cellAt j (by rw [hl] at hj; omega)
        simp only [World.cell?, hh] at this
        refine Eq.trans ?_ (this.trans ?_)
        · rfl
        · simp [List.getD, hj]
    obtain ⟨ko, kc, hv, hbl⟩ := hv
    rw [hv]
    exact h ko kc w1 hbl hB1

/-- It lies in block g; its lists from block B on. -/
def PqM (w : World) (B g : Nat) (P : PP) : Prop :=
  ∃ ko kl kc ko2 kl2 kc2 t2, Pq w g P.off P.life P.due (.slice ko2 kl2 kc2) t2 (.slice ko kl kc) P.torn ∧ Lst w B ko kl kc P.keep ∧ 0 ≤ P.due ∧ P.due ≤ 9223372036854775807 ∧ (0 < P.due → Lst w B ko2 kl2 kc2 P.nk ∧ t2 = P.nt) ∧ g < B
theorem PqM.lt {w : World} {B g : Nat} {P : PP} (h : PqM w B g P) : g < w.heap.size ∧ g < B := by
  obtain ⟨_, _, _, _, _, _, _, h1, _, _, _, _, h2⟩ := h
  exact ⟨h1.lt, h2⟩
theorem PqM.blk {w : World} {B g : Nat} {P : PP} (h : PqM w B g P) : ∃ cs, w.heap[g]? = some (.cells cs 80 (0, 0)) := by
  obtain ⟨_, _, _, _, _, _, _, h1, _⟩ := h
  exact ⟨_, h1⟩
theorem PqM.of {w w' : World} {B g : Nat} {P : PP} (h : PqM w B g P) (hg : w'.heap[g]? = w.heap[g]?) (hk : ∀ b cs fr, B ≤ b → w.heap[b]? = some (.cells cs 4 fr) → w'.heap[b]? = some (.cells cs 4 fr)) : PqM w' B g P := by
  obtain ⟨ko, kl, kc, ko2, kl2, kc2, t2, h1, h2, h4, h4', h5, h6⟩ := h
  exact ⟨ko, kl, kc, ko2, kl2, kc2, t2, hg.trans h1, h2.of hk, h4, h4', fun h => ⟨(h5 h).1.of hk, (h5 h).2⟩, h6⟩
theorem PqM.below {w w' : World} {B g : Nat} {P : PP} (h : PqM w B g P) (hB : Below w.heap.size w w') : PqM w' B g P :=
  h.of (hB.block g h.lt.1) fun b cs fr _ hh => by rw [hB.block b (Array.getElem?_eq_some_iff.1 hh).1, hh]
theorem PqM.kt {S : Nat → Bool} {x : Option Nat} {w w' : World} {B g : Nat} {P : PP} (h : PqM w B g P) (hk : KT S x w w') (h63 : S 80 = false) (h4 : S 4 = false) (hx : ∀ b, x = some b → b < B ∧ b ≠ g) : PqM w' B g P := by
  obtain ⟨cs, hc⟩ := h.blk
  refine h.of ((hk.keep g _ _ _ (fun e => (hx g e).2 rfl) h63 hc).trans hc.symm) fun b cs fr hb hh => hk.keep b _ _ _ (fun e => ?_) h4 hh
  have := (hx b e).1; omega
theorem PqM.c {w : World} {B g : Nat} {P : PP} (h : PqM w B g P) : w.cell? ⟨g, 0, none⟩ = some (.bool P.off) ∧ w.cell? ⟨g, 1, none⟩ = some (.int .i64 P.life) ∧ w.cell? ⟨g, 6, none⟩ = some (.int .i64 P.torn) := by
  obtain ⟨_, _, _, _, _, _, _, h1, _⟩ := h
  obtain ⟨c0, c1, c2, c3, c4, c5, c6, f⟩ := h1.c
  exact ⟨c0, c1, c6⟩
theorem qnew (w : World) (B : Nat) (hB : w.heap.size < B) : Calls Try.prog 11 #[] w fun e w' => e = .returned (.pointer (some ⟨w.heap.size, 0, none⟩)) ∧ PqM w' B w.heap.size PP.new ∧ Below w.heap.size w w' := by
  go_enter Try.func11, Try.ntmps11
  go_wp2
  go_ret
  exact ⟨rfl, ⟨none, 0, 0, none, 0, 0, 0, heap_alloc_new _ _, ⟨rfl, Nat.zero_le _, fun _ => ⟨rfl, rfl⟩, .inl rfl⟩, Int.le_refl _, by decide, fun h => absurd h (by decide), hB⟩, (Below.refl _ _).alloc (Nat.le_refl _) _⟩

/-- What Cut of a power that is on leaves. -/
def QCut (w : World) (g : Nat) (life : Int) (k2 : Value) (t2 : Int) (m : Nat) (bs : List Bool) (t : Int) (e : Ending) (w' : World) : Prop :=
  ∃ ko kc, e = .returned (.tuple #[]) ∧ Pq w' g true life 0 k2 t2 (.slice ko m kc) t ∧ Lst w' w.heap.size ko m kc bs ∧ Below g w w' ∧ POn g w w'
theorem pq_cut {W : World} {g : Nat} {off : Bool} {life due : Int} {k2 : Value} {t2 : Int} {k1 : Value} {t1 : Int} (k : Value) (t : Int) (h : Pq W g off life due k2 t2 k1 t1) :
    Pq ((((W.setCell ⟨g, 0, none⟩ (.bool true)).setCell ⟨g, 2, none⟩ (.int .i64 0)).setCell ⟨g, 6, none⟩ (.int .i64 t)).setCell ⟨g, 5, none⟩ k) g true life 0 k2 t2 k t := by
  have b1 := Joins.block_setCell (i := 0) h (.bool true)
  have b2 := Joins.block_setCell (i := 2) b1 (.int .i64 0)
  have b3 := Joins.block_setCell (i := 6) b2 (.int .i64 t)
  have b4 := Joins.block_setCell (i := 5) b3 k
  unfold Pq
  rw [b4]
  simp
set_option maxHeartbeats 1000000 in
theorem qcut_on (w : World) (g : Nat) (life due : Int) (k2 : Value) (t2 : Int) (k1 : Value) (t1 : Int) (ao : Option Addr) (m cap : Nat) (bs : List Bool) (t : Int) (h : Pq w g false life due k2 t2 k1 t1)
    (hl : bs.length = m) (hm : m ≤ 1000000) (hb : Bl w ao bs) (hnn : ao = none → m = 0 ∧ cap = 0) :
    Calls Try.prog 32 #[.pointer (some ⟨g, 0, none⟩), .slice ao m cap, .int .i64 t] w (QCut w g life k2 t2 m bs t) := by
  obtain ⟨c0, c1, c2, c3, c4, c5, c6, f0⟩ := h.c
  have HP := Lib.hid h; have HB := Lib.hid hb; have HN := Lib.hid hnn; have HL := Lib.hid hl
  clear h hb hnn hl
  go_enter Try.func32, Try.ntmps32
  go_wp2_with (at_builtin; refine append_bools rfl (.tmp 16) (.tmp 17) rfl ao m cap bs rfl rfl HL.out hm HB.out HN.out ?_; intro ko kc w1 hls hB1; have hp1 := HP.out.kept hB1; have hcs := hp1.c; have HP1 := Lib.hid hp1; have HLS := Lib.hid hls; have HB1 := Lib.hid hB1; clear hp1 hls hB1; obtain ⟨e0, e1, e2, e3, e4, e5, e6, ef⟩ := hcs)
  go_end0
  have hgW : g < w.heap.size := HP.out.lt
  refine ⟨ko, kc, rfl, pq_cut _ t HP1.out, HLS.out.pon ((((POn.refl g _).set).set).set).set hgW, (HB1.out.mono (Nat.le_of_lt hgW)).trans (((((Below.refl g _).setCell (Nat.le_refl _) _).setCell (Nat.le_refl _) _).setCell (Nat.le_refl _) _).setCell (Nat.le_refl _) _), ?_⟩
  have hon : POn g w w1 := fun b hb _ => HB1.out.block b hb
  exact (((hon.set).set).set).set
theorem qcut_off (w : World) (g : Nat) (life due : Int) (k2 : Value) (t2 : Int) (k1 : Value) (t1 : Int) (kv : Value) (t : Int) (h : Pq w g true life due k2 t2 k1 t1) :
    Calls Try.prog 32 #[.pointer (some ⟨g, 0, none⟩), kv, .int .i64 t] w fun e w' => e = .returned (.tuple #[]) ∧ w = w' := by
  obtain ⟨c0, c1, c2, c3, c4, c5, c6, f0⟩ := h.c
  clear h
  go_enter Try.func32, Try.ntmps32
  go_wp2
  (try simp only [Exit.inBlock, Exit.then])
  refine bodyPost_ret (results_none rfl _ _ _) rfl ?_
  exact ⟨rfl, rfl⟩
theorem qcut (w : World) (B g : Nat) (P : PP) (ao : Option Addr) (m cap : Nat) (bs : List Bool) (t : Int) (h : PqM w B g P) (hBw : B ≤ w.heap.size) (hl : bs.length = m) (hm : m ≤ 1000000) (hb : Bl w ao bs) (hnn : ao = none → m = 0 ∧ cap = 0) : Calls Try.prog 32 #[.pointer (some ⟨g, 0, none⟩), .slice ao m cap, .int .i64 t] w fun e w' => e = .returned (.tuple #[]) ∧ PqM w' B g (P.cut bs t) ∧ Below g w w' ∧ POn g w w' := by
  obtain ⟨off, life, keep, torn, due, nk, nt⟩ := P
  obtain ⟨ko, kl, kc, ko2, kl2, kc2, t2, h1, h2, h4, h4', h5, h6⟩ := h
  simp only at h1 h2 h4 h4' h5
  cases off with
  | true =>
    refine (qcut_off w g _ _ _ _ _ _ _ _ h1).mono ?_
    rintro e w' ⟨rfl, rfl⟩
    exact ⟨rfl, ⟨ko, kl, kc, ko2, kl2, kc2, t2, h1, h2, h4, h4', h5, h6⟩, Below.refl _ _, POn.refl _ _⟩
  | false =>
    refine (qcut_on w g _ _ _ _ _ _ ao m cap bs t h1 hl hm hb hnn).mono ?_
    rintro e w' ⟨k3, c3, rfl, hp, hL, hB, ho⟩
    exact ⟨rfl, ⟨k3, m, c3, ko2, kl2, kc2, t2, hp, hL.low hBw, Int.le_refl _, (by show (0 : Int) ≤ 9223372036854775807; decide), (fun h => absurd h (Int.lt_irrefl _)), h6⟩, hB, ho⟩

theorem qstart (w : World) (B g : Nat) (P : PP) (h : PqM w B g P) (h0 : 0 ≤ P.life) (hl : P.life ≤ 1000000) : Calls Try.prog 30 #[.pointer (some ⟨g, 0, none⟩)] w fun e w' => e = .returned (.tuple #[]) ∧ PqM w' B g P.start ∧ Below g w w' ∧ POn g w w' := by
  obtain ⟨off, life, keep, torn, due, nk, nt⟩ := P
  obtain ⟨ko, kl, kc, ko2, kl2, kc2, t2, h1, h2, h4, h4', h5, h6⟩ := h
  simp only at h1 h2 h4 h4' h5 h0 hl
  obtain ⟨c0, c1, c2, c3, c4, c5, c6, f0⟩ := h1.c
  have H1 := Lib.hid h1; have H2 := Lib.hid h2; have H4 := Lib.hid h4; have H4' := Lib.hid h4'; have H5 := Lib.hid h5; have H6 := Lib.hid h6
  clear h1 h2 h4 h4' h5 h6
  cases off with
  | true =>
    go_enter Try.func30, Try.ntmps30
    go_wp2
    go_end0
    have ho : POn g w ((w.setCell ⟨g, 0, none⟩ (.bool false)).setCell ⟨g, 1, none⟩ (.int .i64 (life + 1))) := ((POn.refl g w).set).set
    refine ⟨rfl, ⟨ko, kl, kc, ko2, kl2, kc2, t2, ?_, H2.out.pon ho H6.out, H4.out, H4'.out, fun h => ⟨(H5.out h).1.pon ho H6.out, (H5.out h).2⟩, H6.out⟩, ((Below.refl g w).setCell (Nat.le_refl _) _).setCell (Nat.le_refl _) _, ho⟩
    exact (Joins.block_setCell (i := 1) (Joins.block_setCell (i := 0) H1.out _) _).trans (by simp [PP.start])
  | false =>
    go_enter Try.func30, Try.ntmps30
    go_wp2
    go_end0
    exact ⟨rfl, ⟨ko, kl, kc, ko2, kl2, kc2, t2, H1.out, H2.out, H4.out, H4'.out, H5.out, H6.out⟩, Below.refl g w, POn.refl g w⟩

theorem run_max (ats : Array TypeId) (t : TypeId) (x y : Int) (W : World) : (Builtin.max_ ats t #[.int .i64 x, .int .i64 y]).run Try.prog W = .ok (.int .i64 (max x y)) W := by
  by_cases h : x < y
  · rw [Int.max_eq_right (by omega)]
    simp [Builtin.max_, Builtin.max2, h, go_sem]
  · rw [Int.max_eq_left (by omega)]
    simp [Builtin.max_, Builtin.max2, h, go_sem]
theorem pq_trip {W : World} {g : Nat} {off : Bool} {life due : Int} {k2 : Value} {t2 : Int} {k1 : Value} {t1 : Int} (d : Int) (k : Value) (t : Int) (h : Pq W g off life due k2 t2 k1 t1) :
    Pq (((W.setCell ⟨g, 2, none⟩ (.int .i64 d)).setCell ⟨g, 3, none⟩ k).setCell ⟨g, 4, none⟩ (.int .i64 t)) g off life d k t k1 t1 := by
  have b1 := Joins.block_setCell (i := 2) h (.int .i64 d)
  have b2 := Joins.block_setCell (i := 3) b1 k
  have b3 := Joins.block_setCell (i := 4) b2 (.int .i64 t)
  unfold Pq
  rw [b3]
  simp
set_option maxHeartbeats 1000000 in
theorem qtrip_any (w : World) (g : Nat) (off : Bool) (life due : Int) (k2 : Value) (t2 : Int) (k1 : Value) (t1 : Int) (n : Int) (ao : Option Addr) (m cap : Nat) (bs : List Bool) (t : Int) (h : Pq w g off life due k2 t2 k1 t1)
    (hl : bs.length = m) (hm : m ≤ 1000000) (hb : Bl w ao bs) (hnn : ao = none → m = 0 ∧ cap = 0) :
    Calls Try.prog 28 #[.pointer (some ⟨g, 0, none⟩), .int .i64 n, .slice ao m cap, .int .i64 t] w fun e w' => ∃ ko kc, e = .returned (.tuple #[]) ∧ Pq w' g off life (max n 0) (.slice ko m kc) t k1 t1 ∧ Lst w' w.heap.size ko m kc bs ∧ Below g w w' ∧ POn g w w' := by
  obtain ⟨c0, c1, c2, c3, c4, c5, c6, f0⟩ := h.c
  have HP := Lib.hid h; have HB := Lib.hid hb; have HN := Lib.hid hnn; have HL := Lib.hid hl
  obtain ⟨d, hd⟩ : ∃ d, d = max n 0 := ⟨_, rfl⟩
  have hmax : ∀ ats W, (Builtin.max_ ats 3 #[.int .i64 n, .int .i64 0]).run Try.prog W = .ok (.int .i64 d) W := fun ats W => by rw [run_max, hd]
  rw [← hd]
  clear h hb hnn hl hd
  go_enter Try.func28, Try.ntmps28
  go_wp2_with (at_builtin; refine append_bools rfl (.tmp 14) (.tmp 15) rfl ao m cap bs rfl rfl HL.out hm HB.out HN.out ?_; intro ko kc w1 hls hB1; have hp1 := HP.out.kept hB1; have hcs := hp1.c; have HP1 := Lib.hid hp1; have HLS := Lib.hid hls; have HB1 := Lib.hid hB1; clear hp1 hls hB1; obtain ⟨e0, e1, e2, e3, e4, e5, e6, ef⟩ := hcs)
  go_end0
  have hgW : g < w.heap.size := HP.out.lt
  refine ⟨ko, kc, rfl, pq_trip d _ t HP1.out, HLS.out.pon (((POn.refl g _).set).set).set hgW, (HB1.out.mono (Nat.le_of_lt hgW)).trans ((((Below.refl g _).setCell (Nat.le_refl _) _).setCell (Nat.le_refl _) _).setCell (Nat.le_refl _) _), ?_⟩
  have hon : POn g w w1 := fun b hb _ => HB1.out.block b hb
  exact ((hon.set).set).set
theorem qtrip (w : World) (B g : Nat) (P : PP) (n : Int) (ao : Option Addr) (m cap : Nat) (bs : List Bool) (t : Int) (h : PqM w B g P) (hn : n ≤ 9223372036854775807) (hBw : B ≤ w.heap.size) (hl : bs.length = m) (hm : m ≤ 1000000) (hb : Bl w ao bs) (hnn : ao = none → m = 0 ∧ cap = 0) : Calls Try.prog 28 #[.pointer (some ⟨g, 0, none⟩), .int .i64 n, .slice ao m cap, .int .i64 t] w fun e w' => e = .returned (.tuple #[]) ∧ PqM w' B g (P.trip n bs t) ∧ Below g w w' ∧ POn g w w' := by
  obtain ⟨off, life, keep, torn, due, nk, nt⟩ := P
  obtain ⟨ko, kl, kc, ko2, kl2, kc2, t2, h1, h2, h4, h4', h5, h6⟩ := h
  simp only at h1 h2 h4 h4' h5
  refine (qtrip_any w g _ _ _ _ _ _ _ n ao m cap bs t h1 hl hm hb hnn).mono ?_
  rintro e w' ⟨k3, c3, rfl, hp, hL, hB, ho⟩
  refine ⟨rfl, ?_, hB, ho⟩
  by_cases hn1 : n < 1
  · have e2 : PP.trip ⟨off, life, keep, torn, due, nk, nt⟩ n bs t = ⟨off, life, keep, torn, 0, [], 0⟩ := by unfold PP.trip; rw [if_neg (by omega)]
    rw [e2]
    rw [Int.max_eq_right (by omega)] at hp
    exact ⟨ko, kl, kc, k3, m, c3, t, hp, h2.pon ho h6, Int.le_refl _, (by show (0 : Int) ≤ 9223372036854775807; decide), (fun h => absurd h (Int.lt_irrefl _)), h6⟩
  · have e2 : PP.trip ⟨off, life, keep, torn, due, nk, nt⟩ n bs t = ⟨off, life, keep, torn, n, bs, t⟩ := by unfold PP.trip; rw [if_pos (by omega)]
    rw [e2]
    rw [Int.max_eq_left (by omega)] at hp
    refine ⟨ko, kl, kc, k3, m, c3, t, hp, h2.pon ho h6, ?_, ?_, fun h => ⟨hL.low hBw, rfl⟩, h6⟩ <;> simp only <;> omega

theorem qspend_off (w : World) (g : Nat) (life due : Int) (k2 : Value) (t2 : Int) (k1 : Value) (t1 : Int) (h : Pq w g true life due k2 t2 k1 t1) :
    Calls Try.prog 53 #[.pointer (some ⟨g, 0, none⟩)] w fun e w' => e = .returned (.bool false) ∧ w = w' := by
  obtain ⟨c0, c1, c2, c3, c4, c5, c6, f0⟩ := h.c
  clear h
  go_enter Try.func53, Try.ntmps53
  go_wp2
  go_ret
  exact ⟨rfl, rfl⟩
theorem qspend_free (w : World) (g : Nat) (life due : Int) (k2 : Value) (t2 : Int) (k1 : Value) (t1 : Int) (h : Pq w g false life due k2 t2 k1 t1) (hd : ¬ 0 < due) :
    Calls Try.prog 53 #[.pointer (some ⟨g, 0, none⟩)] w fun e w' => e = .returned (.bool true) ∧ w = w' := by
  obtain ⟨c0, c1, c2, c3, c4, c5, c6, f0⟩ := h.c
  have d1 : decide (0 < due) = false := decide_eq_false hd
  clear h
  go_enter Try.func53, Try.ntmps53
  go_wp2
  go_ret
  exact ⟨rfl, rfl⟩
theorem qspend_more (w : World) (g : Nat) (life due : Int) (k2 : Value) (t2 : Int) (k1 : Value) (t1 : Int) (h : Pq w g false life due k2 t2 k1 t1) (hd : 1 < due) (hb : due ≤ 9223372036854775807) :
    Calls Try.prog 53 #[.pointer (some ⟨g, 0, none⟩)] w fun e w' => e = .returned (.bool true) ∧ Pq w' g false life (due - 1) k2 t2 k1 t1 ∧ Below g w w' ∧ POn g w w' := by
  obtain ⟨c0, c1, c2, c3, c4, c5, c6, f0⟩ := h.c
  have d1 : decide (0 < due) = true := decide_eq_true (by omega)
  have d2 : (due - 1 == 0) = false := beq_eq_false_iff_ne.2 (by omega)
  have H := Lib.hid h
  clear h
  go_enter Try.func53, Try.ntmps53
  go_wp2
  go_ret
  exact ⟨rfl, (Joins.block_setCell (i := 2) H.out _).trans (by simp), (Below.refl g w).setCell (Nat.le_refl _) _, (POn.refl g w).set⟩
set_option maxHeartbeats 1000000 in
theorem qspend_last (w : World) (g : Nat) (life : Int) (ko : Option Addr) (kl kc : Nat) (t2 : Int) (k1 : Value) (t1 : Int) (B : Nat) (bs : List Bool) (h : Pq w g false life 1 (.slice ko kl kc) t2 k1 t1) (hL : Lst w B ko kl kc bs) (hg : g < B) :
    Calls Try.prog 53 #[.pointer (some ⟨g, 0, none⟩)] w fun e w' => ∃ k3 c3, e = .returned (.bool false) ∧ Pq w' g true life 0 (.slice ko kl kc) t2 (.slice k3 kl c3) t2 ∧ Lst w' w.heap.size k3 kl c3 bs ∧ Below g w w' ∧ POn g w w' := by
  obtain ⟨c0, c1, c2, c3, c4, c5, c6, f0⟩ := h.c
  have hp : Pq (w.setCell ⟨g, 2, none⟩ (.int .i64 0)) g false life 0 (.slice ko kl kc) t2 k1 t1 := (Joins.block_setCell (i := 2) h _).trans (by simp)
  obtain ⟨W, hW⟩ : ∃ W, W = w.setCell ⟨g, 2, none⟩ (.int .i64 0) := ⟨_, rfl⟩
  have hon : POn g w W := by rw [hW]; exact (POn.refl g w).set
  have hbl : Below g w W := by rw [hW]; exact (Below.refl g w).setCell (Nat.le_refl _) _
  have hLW : Lst W B ko kl kc bs := hL.pon hon hg
  rw [← hW] at hp
  obtain ⟨e0, e1, e2, e3, e4, e5, e6, ef⟩ := hp.c
  have HC : Hid (∀ V, Below W.heap.size W V → Calls Try.prog 32 #[.pointer (some ⟨g, 0, none⟩), .slice ko kl kc, .int .i64 t2] V (QCut V g life (.slice ko kl kc) t2 kl bs t2)) := fun V hV =>
    qcut_on V g _ _ _ _ _ _ ko kl kc bs t2 (hp.kept hV) hL.1 hL.2.1 (hLW.below hV).bl hL.2.2.1
  have hsz : W.heap.size = w.heap.size := by rw [hW]; simp
  have HCELL : Hid (∀ V, Below W.heap.size W V → V.cell? ⟨g, 3, none⟩ = some (.slice ko kl kc) ∧ V.cell? ⟨g, 4, none⟩ = some (.int .i64 t2)) := fun V hV => ⟨by rw [hV.cell (cell_lt e3)]; exact e3, by rw [hV.cell (cell_lt e4)]; exact e4⟩
  have HW := Lib.hid hW; have HON := Lib.hid hon; have HBL := Lib.hid hbl; have HSZ := Lib.hid hsz
  have HPL := Lib.hid hp.lt
  rw [hW] at e0 e1 e2 e3 e4 e5 e6 ef
  clear h hp hW hon hbl hLW hL hsz
  go_enter Try.func53, Try.ntmps53
  go_wp2
  rw [← HW.out]
  go_region_held3 (fun V => V.cell? ⟨g, 3, none⟩ = some (.slice ko kl kc) ∧ V.cell? ⟨g, 4, none⟩ = some (.int .i64 t2)) (first | exact ⟨HP5.out.c.2.2.2.1, HP5.out.c.2.2.2.2.1⟩ | exact HCELL.out _ (Below.refl _ _).drew)
    ((go_at_call 32; (with_reducible refine (HC.out _ (Below.refl _ _).drew).mono ?_); rintro e w5 ⟨k3, c3, rfl, hp5, hl5, hB5, ho5⟩; have HP5 := Lib.hid hp5; have HL5 := Lib.hid hl5; have HB5 := Lib.hid hB5; have HO5 := Lib.hid ho5; clear hp5 hl5 hB5 ho5))
  go_wp2
  go_ret
  refine ⟨k3, c3, rfl, HP5.out, HL5.out.low (by show _ ≤ W.drew.heap.size; show _ ≤ W.heap.size; rw [HSZ.out]; exact Nat.le_refl _), HBL.out.trans ((Below.refl _ _).drew.trans HB5.out), fun b hb hn => ?_⟩
  rw [HO5.out b (by show _ < W.heap.size; rw [HSZ.out]; exact hb) hn]
  exact HON.out b hb hn
theorem qspend (w : World) (B g : Nat) (P : PP) (h : PqM w B g P) (hBw : B ≤ w.heap.size) : Calls Try.prog 53 #[.pointer (some ⟨g, 0, none⟩)] w fun e w' => e = .returned (.bool P.spent) ∧ PqM w' B g P.spend ∧ Below g w w' ∧ POn g w w' := by
  obtain ⟨off, life, keep, torn, due, nk, nt⟩ := P
  obtain ⟨ko, kl, kc, ko2, kl2, kc2, t2, h1, h2, h4, h4', h5, h6⟩ := h
  simp only at h1 h2 h4 h4' h5
  cases off with
  | true =>
    refine (qspend_off w g _ _ _ _ _ _ h1).mono ?_
    rintro e w' ⟨rfl, rfl⟩
    exact ⟨rfl, ⟨ko, kl, kc, ko2, kl2, kc2, t2, h1, h2, h4, h4', h5, h6⟩, Below.refl _ _, POn.refl _ _⟩
  | false =>
    by_cases hd1 : due < 1
    · refine (qspend_free w g _ _ _ _ _ _ h1 (by omega)).mono ?_
      rintro e w' ⟨rfl, rfl⟩
      have e1 : PP.spent ⟨false, life, keep, torn, due, nk, nt⟩ = true := by unfold PP.spent; simp; omega
      have e2 : PP.spend ⟨false, life, keep, torn, due, nk, nt⟩ = ⟨false, life, keep, torn, due, nk, nt⟩ := by unfold PP.spend; simp [hd1]
      rw [e1, e2]
      exact ⟨rfl, ⟨ko, kl, kc, ko2, kl2, kc2, t2, h1, h2, h4, h4', h5, h6⟩, Below.refl _ _, POn.refl _ _⟩
    · by_cases hd2 : due = 1
      · subst hd2
        obtain ⟨hn, rfl⟩ := h5 (by decide)
        refine (qspend_last w g _ ko2 kl2 kc2 t2 _ _ B nk h1 hn h6).mono ?_
        rintro e w' ⟨k3, c3, rfl, hp, hL, hB, ho⟩
        exact ⟨rfl, ⟨k3, kl2, c3, ko2, kl2, kc2, t2, hp, hL.low hBw, Int.le_refl _, (by show (0 : Int) ≤ 9223372036854775807; decide), (fun h => absurd h (Int.lt_irrefl _)), h6⟩, hB, ho⟩
      · refine (qspend_more w g _ _ _ _ _ _ h1 (by omega) h4').mono ?_
        rintro e w' ⟨rfl, hp, hB, ho⟩
        have e1 : PP.spent ⟨false, life, keep, torn, due, nk, nt⟩ = true := by unfold PP.spent; simp [hd2]
        have e2 : PP.spend ⟨false, life, keep, torn, due, nk, nt⟩ = ⟨false, life, keep, torn, due - 1, nk, nt⟩ := by unfold PP.spend; simp [hd1, hd2]
        rw [e1, e2]
        refine ⟨rfl, ⟨ko, kl, kc, ko2, kl2, kc2, t2, hp, h2.pon ho h6, ?_, ?_, fun h => ⟨(h5 (by omega)).1.pon ho h6, (h5 (by omega)).2⟩, h6⟩, hB, ho⟩ <;> simp only <;> omega





end Go.Proofs.Ytmcbmemgeegodaa
