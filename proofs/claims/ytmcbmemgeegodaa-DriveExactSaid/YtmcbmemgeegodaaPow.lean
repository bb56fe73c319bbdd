/-
  The power: contracts of its methods, over a plain record.
-/
import Derived.Test.YtmcbmemgeegodaaBase
import Derived.WalkLawsBesides
import Derived.RegionTactic
import Derived.BigRegion
namespace Go.Proofs.Ytmcbmemgeegodaa
open Go.RowKit
set_option linter.unusedVariables false

/-- A power in memory. -/
def Pw (w : World) (g : Nat) (off : Bool) (life : Int) (k1 : Value) (t1 : Int) (lost : Bool) (k2 : Value) (t2 due : Int) : Prop :=
  w.heap[g]? = some (.cells #[.bool off, .int .i64 life, k1, .int .i64 t1, .bool lost, k2, .int .i64 t2, .int .i64 due] 78 (0, 0))

theorem new_any (w : World) : Calls Try.prog 10 #[] w fun e w' => e = .returned (.pointer (some ⟨w.heap.size, 0, none⟩)) ∧ Pw w' w.heap.size false 0 (.slice none 0 0) 0 false (.slice none 0 0) 0 0 ∧ Below w.heap.size w w' := by
  go_enter Try.func10, Try.ntmps10
  go_wp2
  go_ret
  exact ⟨rfl, heap_alloc_new _ _, (Below.refl _ _).alloc (Nat.le_refl _) _⟩

theorem off_any (w : World) (g : Nat) (off : Bool) (life : Int) (k1 : Value) (t1 : Int) (lost : Bool) (k2 : Value) (t2 due : Int) (h : Pw w g off life k1 t1 lost k2 t2 due) :
    Calls Try.prog 40 #[.pointer (some ⟨g, 0, none⟩)] w fun e w' => e = .returned (.bool off) ∧ w = w' := by
  have c0 : w.cell? ⟨g, 0, none⟩ = some (.bool off) := by rw [Joins.cell_of_block h]; rfl
  have H := Lib.hid h
  clear h
  go_enter Try.func40, Try.ntmps40
  go_wp2
  go_ret
  exact ⟨rfl, rfl⟩

/-- No block but g has turned. -/
def POn (g : Nat) (w w' : World) : Prop := ∀ b, b < w.heap.size → b ≠ g → w'.heap[b]? = w.heap[b]?

theorem POn.set {g i : Nat} {w w' : World} {u : Value} (h : POn g w w') : POn g w (w'.setCell ⟨g, i, none⟩ u) := fun b hb hn => by
  rw [Below.heap_setCell _ _ _ _ hn]; exact h b hb hn

theorem POn.refl (g : Nat) (w : World) : POn g w w := fun _ _ _ => rfl

theorem pw_lose {W : World} {g : Nat} {off : Bool} {life : Int} {k1 : Value} {t1 : Int} {lost : Bool} {k2 : Value} {t2 due : Int} (k : Value) (t : Int) (h : Pw W g off life k1 t1 lost k2 t2 due) :
    Pw (((((((W.setCell ⟨g, 0, none⟩ (.bool true)).setCell ⟨g, 4, none⟩ (.bool true)).setCell ⟨g, 2, none⟩ k).setCell ⟨g, 3, none⟩ (.int .i64 t)).setCell ⟨g, 7, none⟩ (.int .i64 0)).setCell ⟨g, 5, none⟩ (.slice none 0 0)).setCell ⟨g, 6, none⟩ (.int .i64 0)).drew g true life k t true (.slice none 0 0) 0 0 := by
  have b1 := Joins.block_setCell (i := 0) h (.bool true)
  have b2 := Joins.block_setCell (i := 4) b1 (.bool true)
  have b3 := Joins.block_setCell (i := 2) b2 k
  have b4 := Joins.block_setCell (i := 3) b3 (.int .i64 t)
  have b5 := Joins.block_setCell (i := 7) b4 (.int .i64 0)
  have b6 := Joins.block_setCell (i := 5) b5 (.slice none 0 0)
  have b7 := Joins.block_setCell (i := 6) b6 (.int .i64 0)
  unfold Pw
  rw [show ∀ V : World, V.drew.heap = V.heap from fun _ => rfl, b7]
  simp

theorem only_lose {w W : World} {g : Nat} (k : Value) (t : Int) (h : POn g w W) :
    POn g w (((((((W.setCell ⟨g, 0, none⟩ (.bool true)).setCell ⟨g, 4, none⟩ (.bool true)).setCell ⟨g, 2, none⟩ k).setCell ⟨g, 3, none⟩ (.int .i64 t)).setCell ⟨g, 7, none⟩ (.int .i64 0)).setCell ⟨g, 5, none⟩ (.slice none 0 0)).setCell ⟨g, 6, none⟩ (.int .i64 0)).drew := by
  have h1 := h.set (i := 0) (u := .bool true)
  have h2 := h1.set (i := 4) (u := .bool true)
  have h3 := h2.set (i := 2) (u := k)
  have h4 := h3.set (i := 3) (u := .int .i64 t)
  have h5 := h4.set (i := 7) (u := .int .i64 0)
  have h6 := h5.set (i := 5) (u := .slice none 0 0)
  have h7 := h6.set (i := 6) (u := .int .i64 0)
  intro b hb hn
  rw [show ∀ V : World, V.drew.heap = V.heap from fun _ => rfl]
  exact h7 b hb hn

set_option maxHeartbeats 1000000 in
theorem lose_any (w : World) (g : Nat) (off : Bool) (life : Int) (k1 : Value) (t1 : Int) (lost : Bool) (k2 : Value) (t2 due : Int) (ko : Option Addr) (kl kc : Nat) (t : Int) (h : Pw w g off life k1 t1 lost k2 t2 due) :
    Calls Try.prog 61 #[.pointer (some ⟨g, 0, none⟩), .agg #[.slice ko kl kc, .int .i64 t]] w fun e w' => e = .returned (.tuple #[]) ∧ Pw w' g true life (.slice ko kl kc) t true (.slice none 0 0) 0 0 ∧ Below g w w' ∧ POn g w w' := by
  have c0 : w.cell? ⟨g, 0, none⟩ = some (.bool off) := by rw [Joins.cell_of_block h]; rfl
  have c2 : w.cell? ⟨g, 2, none⟩ = some k1 := by rw [Joins.cell_of_block h]; rfl
  have c3 : w.cell? ⟨g, 3, none⟩ = some (.int .i64 t1) := by rw [Joins.cell_of_block h]; rfl
  have c4 : w.cell? ⟨g, 4, none⟩ = some (.bool lost) := by rw [Joins.cell_of_block h]; rfl
  have c5 : w.cell? ⟨g, 5, none⟩ = some k2 := by rw [Joins.cell_of_block h]; rfl
  have c6 : w.cell? ⟨g, 6, none⟩ = some (.int .i64 t2) := by rw [Joins.cell_of_block h]; rfl
  have c7 : w.cell? ⟨g, 7, none⟩ = some (.int .i64 due) := by rw [Joins.cell_of_block h]; rfl
  have f0 : ∀ i, w.frozen? ⟨g, i, none⟩ = false := fun i => Joins.unfrozen_of_block h i
  have hg : g < w.heap.size := cell_lt c0
  have H := Lib.hid h
  clear h
  go_enter Try.func61, Try.ntmps61
  go_wp2
  obtain ⟨W, hW⟩ : ∃ W, W = w.alloc (Obj.cells #[Value.slice ko kl kc, Value.int IntKind.i64 t] 76) := ⟨_, rfl⟩
  rw [← hW]
  have hB0 : Below w.heap.size w W := by rw [hW]; exact (Below.refl _ _).alloc (Nat.le_refl _) _
  have e : ∀ i, W.cell? ⟨g, i, none⟩ = w.cell? ⟨g, i, none⟩ := fun i => hB0.cell (p := ⟨g, i, none⟩) hg
  have ef : ∀ i, W.frozen? ⟨g, i, none⟩ = false := fun i => (hB0.frozen (p := ⟨g, i, none⟩) hg).trans (f0 i)
  have HP : Hid (Pw W g off life k1 t1 lost k2 t2 due) := (hB0.block g hg).trans H.out
  have HB0 := Lib.hid (hB0.mono (Nat.le_of_lt hg))
  have HO : Hid (POn g w W) := fun b hb _ => hB0.block b hb
  have n0 : W.cell? ⟨w.heap.size, 0, none⟩ = some (.slice ko kl kc) := by rw [hW]; simp [World.cell?_alloc_new]
  have n1 : W.cell? ⟨w.heap.size, 1, none⟩ = some (.int .i64 t) := by rw [hW]; simp [World.cell?_alloc_new]
  rw [← e] at c0 c2 c3 c4 c5 c6 c7
  have HW := Lib.hid hW
  clear hW e f0 hB0 H
  go_region
  go_wp2
  go_end0
  refine ⟨rfl, ?_, ((((((((HB0.out.setCell (Nat.le_refl _) _).setCell (Nat.le_refl _) _).setCell (Nat.le_refl _) _).setCell (Nat.le_refl _) _).setCell (Nat.le_refl _) _).setCell (Nat.le_refl _) _).setCell (Nat.le_refl _) _).drew), ?_⟩
  · exact pw_lose _ _ HP.out
  · exact only_lose _ _ HO.out



theorem torn_any (w : World) (g : Nat) (off : Bool) (life : Int) (k1 : Value) (t1 : Int) (lost : Bool) (k2 : Value) (t2 due : Int) (h : Pw w g off life k1 t1 lost k2 t2 due) :
    Calls Try.prog 65 #[.pointer (some ⟨g, 0, none⟩)] w fun e w' => e = .returned (.int .i64 (if lost then t1 else -1)) ∧ w = w' := by
  have c4 : w.cell? ⟨g, 4, none⟩ = some (.bool lost) := by rw [Joins.cell_of_block h]; rfl
  have c3 : w.cell? ⟨g, 3, none⟩ = some (.int .i64 t1) := by rw [Joins.cell_of_block h]; rfl
  have H := Lib.hid h
  clear h
  cases lost
  all_goals
    go_enter Try.func65, Try.ntmps65
    go_wp2
    go_ret
    exact ⟨rfl, rfl⟩

/-- Spend: off. -/
theorem spend_off (w : World) (g : Nat) (life : Int) (k1 : Value) (t1 : Int) (lost : Bool) (k2 : Value) (t2 due : Int) (h : Pw w g true life k1 t1 lost k2 t2 due) :
    Calls Try.prog 63 #[.pointer (some ⟨g, 0, none⟩)] w fun e w' => e = .returned (.bool false) ∧ w = w' := by
  have c0 : w.cell? ⟨g, 0, none⟩ = some (.bool true) := by rw [Joins.cell_of_block h]; rfl
  have H := Lib.hid h
  clear h
  go_enter Try.func63, Try.ntmps63
  go_wp2
  go_ret
  exact ⟨rfl, rfl⟩

theorem spend_free (w : World) (g : Nat) (life : Int) (k1 : Value) (t1 : Int) (lost : Bool) (k2 : Value) (t2 due : Int) (h : Pw w g false life k1 t1 lost k2 t2 due) (hd : due < 1) :
    Calls Try.prog 63 #[.pointer (some ⟨g, 0, none⟩)] w fun e w' => e = .returned (.bool true) ∧ w = w' := by
  have c0 : w.cell? ⟨g, 0, none⟩ = some (.bool false) := by rw [Joins.cell_of_block h]; rfl
  have c7 : w.cell? ⟨g, 7, none⟩ = some (.int .i64 due) := by rw [Joins.cell_of_block h]; rfl
  have H := Lib.hid h
  clear h
  go_enter Try.func63, Try.ntmps63
  go_wp2
  go_ret
  exact ⟨rfl, rfl⟩

theorem spend_more (w : World) (g : Nat) (life : Int) (k1 : Value) (t1 : Int) (lost : Bool) (k2 : Value) (t2 due : Int) (h : Pw w g false life k1 t1 lost k2 t2 due) (hd : 1 < due) (hb : due ≤ 9223372036854775807) :
    Calls Try.prog 63 #[.pointer (some ⟨g, 0, none⟩)] w fun e w' => e = .returned (.bool true) ∧ Pw w' g false life k1 t1 lost k2 t2 (due - 1) ∧ Below g w w' ∧ POn g w w' := by
  have c0 : w.cell? ⟨g, 0, none⟩ = some (.bool false) := by rw [Joins.cell_of_block h]; rfl
  have c7 : w.cell? ⟨g, 7, none⟩ = some (.int .i64 due) := by rw [Joins.cell_of_block h]; rfl
  have f0 : ∀ i, w.frozen? ⟨g, i, none⟩ = false := fun i => Joins.unfrozen_of_block h i
  have d1 : (due - 1 == 0) = false := beq_eq_false_iff_ne.2 (by omega)
  have H := Lib.hid h
  clear h
  go_enter Try.func63, Try.ntmps63
  go_wp2
  go_ret
  exact ⟨rfl, (Joins.block_setCell (i := 7) H.out _).trans (by simp), (Below.refl g w).setCell (Nat.le_refl _) _, (POn.refl g w).set⟩

theorem spend_last (w : World) (g : Nat) (life : Int) (k1 : Value) (t1 : Int) (lost : Bool) (ko : Option Addr) (kl kc : Nat) (t2 : Int) (h : Pw w g false life k1 t1 lost (.slice ko kl kc) t2 1) :
    Calls Try.prog 63 #[.pointer (some ⟨g, 0, none⟩)] w fun e w' => e = .returned (.bool false) ∧ Pw w' g true life (.slice ko kl kc) t2 true (.slice none 0 0) 0 0 ∧ Below g w w' ∧ POn g w w' := by
  have c0 : w.cell? ⟨g, 0, none⟩ = some (.bool false) := by rw [Joins.cell_of_block h]; rfl
  have c7 : w.cell? ⟨g, 7, none⟩ = some (.int .i64 1) := by rw [Joins.cell_of_block h]; rfl
  have c5 : w.cell? ⟨g, 5, none⟩ = some (.slice ko kl kc) := by rw [Joins.cell_of_block h]; rfl
  have c6 : w.cell? ⟨g, 6, none⟩ = some (.int .i64 t2) := by rw [Joins.cell_of_block h]; rfl
  have f0 : ∀ i, w.frozen? ⟨g, i, none⟩ = false := fun i => Joins.unfrozen_of_block h i
  have HP : Hid (Pw (w.setCell ⟨g, 7, none⟩ (.int .i64 0)) g false life k1 t1 lost (.slice ko kl kc) t2 0) := (Joins.block_setCell (i := 7) h _).trans (by simp)
  clear h
  go_enter Try.func63, Try.ntmps63
  go_wp2_with (go_at_call 61; refine (lose_any _ g _ _ _ _ _ _ _ _ ko kl kc t2 HP.out).mono ?_; rintro e w1 ⟨rfl, hp, hB, ho⟩; have HPP := Lib.hid hp; have HO := Lib.hid ho; clear hp ho)
  go_ret
  exact ⟨rfl, HPP.out, ((Below.refl g w).setCell (Nat.le_refl _) _).trans hB, fun b hb hn => (HO.out b (by simpa using hb) hn).trans (Below.heap_setCell _ _ _ _ hn)⟩

theorem Try.info4 : (Try.prog.info? 4).map (fun i => (i.zero, i.size, i.bytes)) = some (some (.bool false), 1, 1) := by kernel_rfl

/-- The bools bs lie at ao. -/
def Bl (w : World) (ao : Option Addr) (bs : List Bool) : Prop :=
  bs = [] ∨ ∃ b o, ao = some ⟨b, o, none⟩ ∧ ∀ j, j < bs.length → w.cell? ⟨b, o + j, none⟩ = some (.bool (bs.getD j false))

theorem Bl.below {w w' : World} {ao : Option Addr} {bs : List Bool} (h : Bl w ao bs) (hB : Below w.heap.size w w') : Bl w' ao bs := by
  rcases h with h | ⟨b, o, ha, hc⟩
  · exact .inl h
  · exact .inr ⟨b, o, ha, fun j hj => by have := hc j hj; rw [hB.cell (cell_lt this), this]⟩

theorem Bl.set {w : World} {ao : Option Addr} {bs : List Bool} {g i : Nat} {u : Value} (h : Bl w ao bs) (hn : ∀ b o s, ao = some ⟨b, o, s⟩ → b ≠ g) : Bl (w.setCell ⟨g, i, none⟩ u) ao bs := by
  rcases h with h | ⟨b, o, ha, hc⟩
  · exact .inl h
  · refine .inr ⟨b, o, ha, fun j hj => ?_⟩
    rw [← hc j hj]
    apply World.cell?_of_block
    rw [Below.heap_setCell _ _ _ _ (hn b o none ha)]

theorem Bl.cells {w : World} {ad : Addr} {bs : List Bool} (h : Bl w (some ad) bs) : ∀ j u, (bs.map Value.bool)[j]? = some u → w.cell? (ad.add j) = some u := by
  intro j u hu
  obtain ⟨hj, hu⟩ := List.getElem?_eq_some_iff.1 hu
  simp at hj
  rcases h with h | ⟨b, o, ha, hc⟩
  · subst h; simp at hj
  · obtain rfl := Option.some.inj ha
    rw [Addr.add_lit, hc j hj, ← hu]
    simp [List.getD, hj]

theorem bools_oneCell (bs : List Bool) : ∀ u ∈ bs.map Value.bool, u.oneCell' = true := by
  intro u hu
  obtain ⟨_, _, rfl⟩ := List.mem_map.1 hu
  rfl

/-- A list of bools, from block B on, in a block of its own. -/
def Lst (w : World) (B : Nat) (ko : Option Addr) (kl kc : Nat) (bs : List Bool) : Prop :=
  bs.length = kl ∧ kl ≤ 1000000 ∧ (ko = none → kl = 0 ∧ kc = 0) ∧ (bs = [] ∨ ∃ b cs fr, ko = some ⟨b, 0, none⟩ ∧ B ≤ b ∧ w.heap[b]? = some (.cells cs 4 fr) ∧ ∀ j, j < bs.length → cs[j]? = some (.bool (bs.getD j false)))
theorem Lst.bl {w : World} {B : Nat} {ko : Option Addr} {kl kc : Nat} {bs : List Bool} (h : Lst w B ko kl kc bs) : Bl w ko bs := by
  obtain ⟨_, _, _, h | ⟨b, cs, fr, ha, hB, hh, hc⟩⟩ := h
  · exact .inl h
  · exact .inr ⟨b, 0, ha, fun j hj => by rw [Nat.zero_add]; simp [World.cell?, hh, hc j hj]⟩
theorem Lst.of {w w' : World} {B : Nat} {ko : Option Addr} {kl kc : Nat} {bs : List Bool} (h : Lst w B ko kl kc bs) (hk : ∀ b cs fr, B ≤ b → w.heap[b]? = some (.cells cs 4 fr) → w'.heap[b]? = some (.cells cs 4 fr)) : Lst w' B ko kl kc bs := by
  obtain ⟨h1, h2, h0, h | ⟨b, cs, fr, ha, hB, hh, hc⟩⟩ := h
  · exact ⟨h1, h2, h0, .inl h⟩
  · exact ⟨h1, h2, h0, .inr ⟨b, cs, fr, ha, hB, hk _ _ _ hB hh, hc⟩⟩
theorem Lst.low {w : World} {B C : Nat} {ko : Option Addr} {kl kc : Nat} {bs : List Bool} (h : Lst w B ko kl kc bs) (hC : C ≤ B) : Lst w C ko kl kc bs := by
  obtain ⟨h1, h2, h0, h | ⟨b, cs, fr, ha, hB, hh, hc⟩⟩ := h
  · exact ⟨h1, h2, h0, .inl h⟩
  · exact ⟨h1, h2, h0, .inr ⟨b, cs, fr, ha, Nat.le_trans hC hB, hh, hc⟩⟩
theorem Lst.pon {w w' : World} {B g : Nat} {ko : Option Addr} {kl kc : Nat} {bs : List Bool} (h : Lst w B ko kl kc bs) (ho : POn g w w') (hg : g < B) : Lst w' B ko kl kc bs :=
  h.of fun b cs fr hb hh => by rw [ho b (Array.getElem?_eq_some_iff.1 hh).1 (by omega), hh]
theorem Lst.below {w w' : World} {B : Nat} {ko : Option Addr} {kl kc : Nat} {bs : List Bool} (h : Lst w B ko kl kc bs) (hB : Below w.heap.size w w') : Lst w' B ko kl kc bs :=
  h.of fun b cs fr hb hh => by rw [hB.block b (Array.getElem?_eq_some_iff.1 hh).1, hh]
theorem Lst.nil (w : World) (B : Nat) : Lst w B none 0 0 [] := ⟨rfl, Nat.zero_le _, fun _ => ⟨rfl, rfl⟩, .inl rfl⟩


/-- What Clone leaves. -/
def ClonePost (w : World) (n : Nat) (bs : List Bool) (e : Ending) (w' : World) : Prop :=
  ∃ ko kc, e = .returned (.slice ko n kc) ∧ Lst w' w.heap.size ko n kc bs ∧ Below w.heap.size w w'

theorem bclone_nil (w : World) : Calls Try.prog 60 #[.slice none 0 0] w fun e w' => e = .returned (.slice none 0 0) ∧ w = w' := by
  have q : ∀ (w : World) (a : Option Addr) (n c n' c' : Nat), (binOp .eql 74 (.slice a n c) (.slice none n' c')).run Try.prog w = .ok (.bool a.isNone) w := fun w a n c n' c' => Lib.run_eql_slice_nil w _ _ a n c n' c' Try.underlying74
  go_enter Try.func60, Try.ntmps60
  go_wp2
  go_ret
  exact ⟨rfl, rfl⟩

theorem bclone_some (ad : Addr) (n cap : Nat) (bs : List Bool) (w : World) (hl : bs.length = n) (hm : n ≤ 1000000) (h : Bl w (some ad) bs) :
    Calls Try.prog 60 #[.slice (some ad) n cap] w (ClonePost w n bs) := by
  obtain ⟨i0, hi, hz0, hz1, hz2⟩ := info_parts Try.info4
  have q : ∀ (w : World) (a : Option Addr) (n c n' c' : Nat), (binOp .eql 74 (.slice a n c) (.slice none n' c')).run Try.prog w = .ok (.bool a.isNone) w := fun w a n c n' c' => Lib.run_eql_slice_nil w _ _ a n c n' c' Try.underlying74
  have H := Lib.hid h; have HL := Lib.hid hl
  clear h hl
  go_enter Try.func60, Try.ntmps60
  have hown : (w.alloc (.cells #[] 4)).ownsRow w.heap.size 4 1 (.slice (some ⟨w.heap.size, 0, none⟩) 0 0) 0 [] := World.ownsRow_lit (base := w.heap.size) (e := 4) (size := 1) w #[] 0 (Nat.le_refl _) (Nat.zero_le _) rfl
  have hB0 : Below w.heap.size w (w.alloc (.cells #[] 4)) := (Below.refl _ _).alloc (Nat.le_refl _) _
  have HO := Lib.hid hown; have HB0 := Lib.hid hB0
  clear hown hB0
  go_wp2_with (at_builtin; refine wpList_append_own _ rfl (.tmp 5) (.tmp 6) 74 rfl w.heap.size 4 i0 (.bool false) 1 1 Try.underlying74 hi hz0 hz1 hz2 rfl (by decide) _ 0 _ rfl HO.out ad n cap (bs.map .bool) rfl ?c0 ?c1 ?c2 ?c3 ?c4 ?c5 ?_)
  case c0 => simp [HL.out]
  case c1 => exact (H.out.below HB0.out).cells
  case c2 => exact bools_oneCell _
  case c3 => unfold maxLen; omega
  case c4 => omega
  case c5 => simp
  intro v' w1 hown1 hgrow1 hnil
  have HB1 := Lib.hid (Below.grown HB0.out hgrow1 (by simp) (fun k h => by cases h; exact Nat.le_refl _))
  have hv : ∃ ko kc, v' = .slice ko n kc ∧ Lst w1 w.heap.size ko n kc bs := by
    rcases hown1.2 with ⟨h1, h2⟩ | ⟨g', cap', cur, h1, hge, hh, _, _, _, _⟩
    · subst h2; exact ⟨none, 0, h1, HL.out, hm, fun _ => ⟨rfl, rfl⟩, .inl (List.eq_nil_of_length_eq_zero HL.out)⟩
    · subst h1
      refine ⟨_, _, rfl, HL.out, hm, fun h => by simp at h, .inr ⟨g', cur, (0, 0), rfl, hge, hh, fun j hj => ?_⟩⟩
      have := hown1.cellAt j (by rw [HL.out] at hj; omega)
      simp only [World.cell?, hh] at this
      refine Eq.trans ?_ (this.trans ?_)
      · rfl
      · simp [List.getD, hj]
  obtain ⟨ko, kc, hv, hbl⟩ := hv
  rw [hv]
  have HBL := Lib.hid hbl
  clear hbl hown1 hgrow1 hnil hv
  go_wp2
  go_ret
  exact ⟨ko, kc, rfl, HBL.out, HB1.out⟩

/-- Clone of whatever list. -/
theorem bclone_any (ao : Option Addr) (n cap : Nat) (bs : List Bool) (w : World) (hl : bs.length = n) (hm : n ≤ 1000000) (h : Bl w ao bs) (hn : ao = none → n = 0 ∧ cap = 0) :
    Calls Try.prog 60 #[.slice ao n cap] w (ClonePost w n bs) := by
  cases ao with
  | some ad => exact bclone_some ad n cap bs w hl hm h
  | none =>
    obtain ⟨rfl, rfl⟩ := hn rfl
    refine (bclone_nil w).mono ?_
    rintro e w' ⟨rfl, rfl⟩
    exact ⟨none, 0, rfl, ⟨hl, hm, fun _ => ⟨rfl, rfl⟩, .inl (List.eq_nil_of_length_eq_zero hl)⟩, Below.refl _ _⟩

theorem Pw.kept {w w' : World} {g : Nat} {off : Bool} {life : Int} {k1 : Value} {t1 : Int} {lost : Bool} {k2 : Value} {t2 due : Int} (h : Pw w g off life k1 t1 lost k2 t2 due) (hB : Below w.heap.size w w') : Pw w' g off life k1 t1 lost k2 t2 due := by
  unfold Pw at *
  rw [hB.block g (Array.getElem?_eq_some_iff.1 h).1, h]

theorem Pw.lt {w : World} {g : Nat} {off : Bool} {life : Int} {k1 : Value} {t1 : Int} {lost : Bool} {k2 : Value} {t2 due : Int} (h : Pw w g off life k1 t1 lost k2 t2 due) : g < w.heap.size := (Array.getElem?_eq_some_iff.1 h).1

theorem Pw.c {w : World} {g : Nat} {off : Bool} {life : Int} {k1 : Value} {t1 : Int} {lost : Bool} {k2 : Value} {t2 due : Int} (h : Pw w g off life k1 t1 lost k2 t2 due) :
    w.cell? ⟨g, 0, none⟩ = some (.bool off) ∧ w.cell? ⟨g, 1, none⟩ = some (.int .i64 life) ∧ w.cell? ⟨g, 2, none⟩ = some k1 ∧ w.cell? ⟨g, 3, none⟩ = some (.int .i64 t1) ∧ w.cell? ⟨g, 4, none⟩ = some (.bool lost) ∧
    w.cell? ⟨g, 5, none⟩ = some k2 ∧ w.cell? ⟨g, 6, none⟩ = some (.int .i64 t2) ∧ w.cell? ⟨g, 7, none⟩ = some (.int .i64 due) ∧ ∀ i, w.frozen? ⟨g, i, none⟩ = false :=
  ⟨by rw [Joins.cell_of_block h]; rfl, by rw [Joins.cell_of_block h]; rfl, by rw [Joins.cell_of_block h]; rfl, by rw [Joins.cell_of_block h]; rfl, by rw [Joins.cell_of_block h]; rfl, by rw [Joins.cell_of_block h]; rfl, by rw [Joins.cell_of_block h]; rfl, by rw [Joins.cell_of_block h]; rfl, fun i => Joins.unfrozen_of_block h i⟩

/-- The first half of Trip: nothing is armed. -/
theorem pw_trip0 {W : World} {g : Nat} {off : Bool} {life : Int} {k1 : Value} {t1 : Int} {lost : Bool} {k2 : Value} {t2 due : Int} (h : Pw W g off life k1 t1 lost k2 t2 due) :
    Pw (((W.setCell ⟨g, 7, none⟩ (.int .i64 0)).setCell ⟨g, 5, none⟩ (.slice none 0 0)).setCell ⟨g, 6, none⟩ (.int .i64 0)) g off life k1 t1 lost (.slice none 0 0) 0 0 := by
  have b5 := Joins.block_setCell (i := 7) h (.int .i64 0)
  have b6 := Joins.block_setCell (i := 5) b5 (.slice none 0 0)
  have b7 := Joins.block_setCell (i := 6) b6 (.int .i64 0)
  unfold Pw
  rw [b7]
  simp

theorem pw_trip1 {W : World} {g : Nat} {off : Bool} {life : Int} {k1 : Value} {t1 : Int} {lost : Bool} {k2 : Value} {t2 due : Int} (n : Int) (k : Value) (t : Int) (h : Pw W g off life k1 t1 lost k2 t2 due) :
    Pw (((W.setCell ⟨g, 7, none⟩ (.int .i64 n)).setCell ⟨g, 5, none⟩ k).setCell ⟨g, 6, none⟩ (.int .i64 t)) g off life k1 t1 lost k t n := by
  have b5 := Joins.block_setCell (i := 7) h (.int .i64 n)
  have b6 := Joins.block_setCell (i := 5) b5 k
  have b7 := Joins.block_setCell (i := 6) b6 (.int .i64 t)
  unfold Pw
  rw [b7]
  simp

set_option maxHeartbeats 1000000 in
theorem trip_none (w : World) (g : Nat) (off : Bool) (life : Int) (k1 : Value) (t1 : Int) (lost : Bool) (k2 : Value) (t2 due : Int) (n : Int) (kv : Value) (t : Int) (h : Pw w g off life k1 t1 lost k2 t2 due) (hn : n < 1) :
    Calls Try.prog 27 #[.pointer (some ⟨g, 0, none⟩), .int .i64 n, kv, .int .i64 t] w fun e w' => e = .returned (.tuple #[]) ∧ Pw w' g off life k1 t1 lost (.slice none 0 0) 0 0 ∧ Below g w w' ∧ POn g w w' := by
  obtain ⟨c0, c1, c2, c3, c4, c5, c6, c7, f0⟩ := h.c
  have HP := Lib.hid (pw_trip0 h)
  clear h
  go_enter Try.func27, Try.ntmps27
  go_wp2
  go_end0
  exact ⟨rfl, HP.out, (((Below.refl g w).setCell (Nat.le_refl _) _).setCell (Nat.le_refl _) _).setCell (Nat.le_refl _) _, (((POn.refl g w).set).set).set⟩

/-- What an armed Trip leaves. -/
def TripPost (w : World) (g : Nat) (off : Bool) (life : Int) (k1 : Value) (t1 : Int) (lost : Bool) (n : Int) (m : Nat) (bs : List Bool) (t : Int) (e : Ending) (w' : World) : Prop :=
  ∃ ko kc, e = .returned (.tuple #[]) ∧ Pw w' g off life k1 t1 lost (.slice ko m kc) t n ∧ Lst w' w.heap.size ko m kc bs ∧ Below g w w' ∧ POn g w w'

set_option maxHeartbeats 1000000 in
theorem trip_some (w : World) (g : Nat) (off : Bool) (life : Int) (k1 : Value) (t1 : Int) (lost : Bool) (k2 : Value) (t2 due : Int) (n : Int) (ao : Option Addr) (m cap : Nat) (bs : List Bool) (t : Int) (h : Pw w g off life k1 t1 lost k2 t2 due) (hn : 1 ≤ n)
    (hl : bs.length = m) (hm : m ≤ 1000000) (hb : Bl w ao bs) (hag : bs = [] ∨ ∀ b o s, ao = some ⟨b, o, s⟩ → b ≠ g) (hnn : ao = none → m = 0 ∧ cap = 0) :
    Calls Try.prog 27 #[.pointer (some ⟨g, 0, none⟩), .int .i64 n, .slice ao m cap, .int .i64 t] w (TripPost w g off life k1 t1 lost n m bs t) := by
  obtain ⟨c0, c1, c2, c3, c4, c5, c6, c7, f0⟩ := h.c
  have hp0 := pw_trip0 h
  obtain ⟨W, hW⟩ : ∃ W, W = (((w.setCell ⟨g, 7, none⟩ (.int .i64 0)).setCell ⟨g, 5, none⟩ (.slice none 0 0)).setCell ⟨g, 6, none⟩ (.int .i64 0)) := ⟨_, rfl⟩
  have hbW : Bl W ao bs := by
    rcases hb with h' | ⟨b, o, ha, hc⟩
    · exact .inl h'
    · rcases hag with hag | hag
      · exact .inl hag
      refine .inr ⟨b, o, ha, fun j hj => ?_⟩
      have hne := hag b o none ha
      rw [hW]
      rw [← hc j hj]
      apply World.cell?_of_block
      rw [Below.heap_setCell _ _ _ _ hne, Below.heap_setCell _ _ _ _ hne, Below.heap_setCell _ _ _ _ hne]
  have hbelow : Below g w W := by rw [hW]; exact (((Below.refl g w).setCell (Nat.le_refl _) _).setCell (Nat.le_refl _) _).setCell (Nat.le_refl _) _
  have HC := Lib.hid (bclone_any ao m cap bs W hl hm hbW hnn)
  rw [← hW] at hp0
  have honW : POn g w W := by rw [hW]; exact (((POn.refl g w).set).set).set
  have hsz : W.heap.size = w.heap.size := by rw [hW]; simp
  have HON := Lib.hid honW; have HSZ := Lib.hid hsz
  have HP := Lib.hid hp0; have HBW := Lib.hid hbelow; have HW := Lib.hid hW
  clear h hb hbW hbelow hp0 hag hnn hW honW hsz
  go_enter Try.func27, Try.ntmps27
  go_wp2_with (go_at_call 60; rw [← HW.out]; refine HC.out.mono ?_; rintro e w1 ⟨ko, kc, rfl, hbl, hB1⟩; have hp1 := HP.out.kept hB1; have hcs := hp1.c; have HP1 := Lib.hid hp1; have HBL := Lib.hid hbl; have HB1 := Lib.hid hB1; clear hp1 hbl hB1; obtain ⟨e0, e1, e2, e3, e4, e5, e6, e7, ef⟩ := hcs)
  go_end0
  have hgW : g < W.heap.size := HP.out.lt
  have hl1 : Lst w1 w.heap.size ko m kc bs := by have := HBL.out; rw [HSZ.out] at this; exact this
  have hg : g < w.heap.size := by have := HSZ.out; omega
  have hon1 : POn g w w1 := fun b hb hn => by rw [HB1.out.block b (by have := HSZ.out; omega)]; exact HON.out b hb hn
  exact ⟨ko, kc, rfl, pw_trip1 n _ t HP1.out, hl1.pon (((POn.refl g _).set).set).set hg, (HBW.out.trans (HB1.out.mono (Nat.le_of_lt hgW))).trans ((((Below.refl g _).setCell (Nat.le_refl _) _).setCell (Nat.le_refl _) _).setCell (Nat.le_refl _) _), ((hon1.set).set).set⟩

theorem cut_off (w : World) (g : Nat) (life : Int) (k1 : Value) (t1 : Int) (lost : Bool) (k2 : Value) (t2 due : Int) (kv : Value) (t : Int) (h : Pw w g true life k1 t1 lost k2 t2 due) :
    Calls Try.prog 31 #[.pointer (some ⟨g, 0, none⟩), kv, .int .i64 t] w fun e w' => e = .returned (.tuple #[]) ∧ w = w' := by
  obtain ⟨c0, c1, c2, c3, c4, c5, c6, c7, f0⟩ := h.c
  clear h
  go_enter Try.func31, Try.ntmps31
  go_wp2
  go_end0
  exact ⟨rfl, rfl⟩

/-- What Cut of a power that is on leaves; its list lies elsewhere. -/
def CutPost2 (w : World) (g : Nat) (life : Int) (m : Nat) (bs : List Bool) (t : Int) (e : Ending) (w' : World) : Prop :=
  ∃ ko kc, e = .returned (.tuple #[]) ∧ Pw w' g true life (.slice ko m kc) t true (.slice none 0 0) 0 0 ∧ Lst w' w.heap.size ko m kc bs ∧ Below g w w' ∧ POn g w w'

set_option maxHeartbeats 1000000 in
theorem cut_on2 (w : World) (g : Nat) (life : Int) (k1 : Value) (t1 : Int) (lost : Bool) (k2 : Value) (t2 due : Int) (ao : Option Addr) (m cap : Nat) (bs : List Bool) (t : Int) (h : Pw w g false life k1 t1 lost k2 t2 due)
    (hl : bs.length = m) (hm : m ≤ 1000000) (hb : Bl w ao bs) (hnn : ao = none → m = 0 ∧ cap = 0) :
    Calls Try.prog 31 #[.pointer (some ⟨g, 0, none⟩), .slice ao m cap, .int .i64 t] w (CutPost2 w g life m bs t) := by
  obtain ⟨c0, c1, c2, c3, c4, c5, c6, c7, f0⟩ := h.c
  have HC := Lib.hid (bclone_any ao m cap bs w hl hm hb hnn)
  have HP := Lib.hid h
  clear h hb hnn
  go_enter Try.func31, Try.ntmps31
  go_wp2_with (first
    | (go_at_call 60; refine HC.out.mono ?_; rintro e w1 ⟨ko, kc, rfl, hbl, hB1⟩; have HP1 := Lib.hid (HP.out.kept hB1); have HBL := Lib.hid hbl; have HB1 := Lib.hid hB1; clear hbl hB1)
    | (go_at_call 61; refine (lose_any _ g _ _ _ _ _ _ _ _ ko m kc t HP1.out).mono ?_; rintro e w2 ⟨rfl, hp2, hB2, ho2⟩; have HP2 := Lib.hid hp2; have HB2 := Lib.hid hB2; have HO2 := Lib.hid ho2; clear hp2 hB2 ho2))
  go_end0
  have hgW : g < w.heap.size := HP.out.lt
  exact ⟨ko, kc, rfl, HP2.out, HBL.out.pon HO2.out hgW, (HB1.out.mono (Nat.le_of_lt hgW)).trans HB2.out, fun b hb hn => by rw [HO2.out b (Nat.lt_of_lt_of_le hb HB1.out.size) hn]; exact HB1.out.block b hb⟩

theorem start_only (w : World) (g : Nat) (off : Bool) (life : Int) (k1 : Value) (t1 : Int) (lost : Bool) (k2 : Value) (t2 due : Int) (h : Pw w g off life k1 t1 lost k2 t2 due) (h0 : 0 ≤ life) (h1 : life ≤ 1000000) :
    Calls Try.prog 29 #[.pointer (some ⟨g, 0, none⟩)] w fun e w' => e = .returned (.tuple #[]) ∧ Pw w' g false (if off then life + 1 else life) k1 t1 lost k2 t2 due ∧ Below g w w' ∧ POn g w w' := by
  obtain ⟨c0, c1, c2, c3, c4, c5, c6, c7, f0⟩ := h.c
  have H := Lib.hid h
  clear h
  cases off with
  | true =>
    go_enter Try.func29, Try.ntmps29
    go_wp2
    go_end0
    refine ⟨rfl, ?_, ((Below.refl g w).setCell (Nat.le_refl _) _).setCell (Nat.le_refl _) _, ((POn.refl g w).set).set⟩
    exact (Joins.block_setCell (i := 1) (Joins.block_setCell (i := 0) H.out _) _).trans (by simp)
  | false =>
    go_enter Try.func29, Try.ntmps29
    go_wp2
    go_end0
    exact ⟨rfl, H.out, Below.refl g w, POn.refl g w⟩





/-- A power, plainly. -/
structure PP where
  off : Bool
  life : Int
  keep : List Bool
  torn : Int
  due : Int
  nk : List Bool
  nt : Int
def PP.new : PP := ⟨false, 0, [], -1, 0, [], 0⟩
def PP.lose (P : PP) (k : List Bool) (t : Int) : PP := ⟨true, P.life, k, t, 0, [], 0⟩
def PP.cut (P : PP) (k : List Bool) (t : Int) : PP := if P.off then P else P.lose k t
def PP.start (P : PP) : PP := if P.off then { P with off := false, life := P.life + 1 } else P
def PP.trip (P : PP) (n : Int) (k : List Bool) (t : Int) : PP := if 1 ≤ n then { P with due := n, nk := k, nt := t } else { P with due := 0, nk := [], nt := 0 }
def PP.spent (P : PP) : Bool := !P.off && decide (P.due ≠ 1)
def PP.spend (P : PP) : PP := if P.off then P else if P.due < 1 then P else if P.due = 1 then P.lose P.nk P.nt else { P with due := P.due - 1 }
def PP.kept (P : PP) (k : Int) : Bool := decide (0 ≤ k) && P.keep.getD k.toNat false
/-- It lies in block g; its lists from block B on. -/
def PwM (w : World) (B g : Nat) (P : PP) : Prop :=
  ∃ ko kl kc t1 lost ko2 kl2 kc2 t2, Pw w g P.off P.life (.slice ko kl kc) t1 lost (.slice ko2 kl2 kc2) t2 P.due ∧ Lst w B ko kl kc P.keep ∧ P.torn = (if lost then t1 else -1) ∧ 0 ≤ P.due ∧ P.due ≤ 9223372036854775807 ∧ (0 < P.due → Lst w B ko2 kl2 kc2 P.nk ∧ t2 = P.nt) ∧ g < B
theorem PwM.lt {w : World} {B g : Nat} {P : PP} (h : PwM w B g P) : g < w.heap.size ∧ g < B := by
  obtain ⟨_, _, _, _, _, _, _, _, _, h1, _, _, _, _, _, h2⟩ := h
  exact ⟨h1.lt, h2⟩
theorem PwM.blk {w : World} {B g : Nat} {P : PP} (h : PwM w B g P) : ∃ cs, w.heap[g]? = some (.cells cs 78 (0, 0)) := by
  obtain ⟨_, _, _, _, _, _, _, _, _, h1, _⟩ := h
  exact ⟨_, h1⟩
theorem PwM.of {w w' : World} {B g : Nat} {P : PP} (h : PwM w B g P) (hg : w'.heap[g]? = w.heap[g]?) (hk : ∀ b cs fr, B ≤ b → w.heap[b]? = some (.cells cs 4 fr) → w'.heap[b]? = some (.cells cs 4 fr)) : PwM w' B g P := by
  obtain ⟨ko, kl, kc, t1, lost, ko2, kl2, kc2, t2, h1, h2, h3, h4, h4', h5, h6⟩ := h
  exact ⟨ko, kl, kc, t1, lost, ko2, kl2, kc2, t2, hg.trans h1, h2.of hk, h3, h4, h4', fun h => ⟨(h5 h).1.of hk, (h5 h).2⟩, h6⟩
theorem PwM.below {w w' : World} {B g : Nat} {P : PP} (h : PwM w B g P) (hB : Below w.heap.size w w') : PwM w' B g P :=
  h.of (hB.block g h.lt.1) fun b cs fr _ hh => by rw [hB.block b (Array.getElem?_eq_some_iff.1 hh).1, hh]
theorem PwM.low {w : World} {B C g : Nat} {P : PP} (h : PwM w B g P) (hC : C ≤ B) (hg : g < C) : PwM w C g P := by
  obtain ⟨ko, kl, kc, t1, lost, ko2, kl2, kc2, t2, h1, h2, h3, h4, h4', h5, h6⟩ := h
  exact ⟨ko, kl, kc, t1, lost, ko2, kl2, kc2, t2, h1, h2.low hC, h3, h4, h4', fun h => ⟨(h5 h).1.low hC, (h5 h).2⟩, hg⟩
theorem pnew (w : World) : Calls Try.prog 10 #[] w fun e w' => e = .returned (.pointer (some ⟨w.heap.size, 0, none⟩)) ∧ PwM w' w'.heap.size w.heap.size PP.new ∧ Below w.heap.size w w' :=
  (new_any w).mono fun e w' ⟨h1, h2, h3⟩ => ⟨h1, ⟨none, 0, 0, 0, false, none, 0, 0, 0, h2, Lst.nil _ _, rfl, Int.le_refl _, by decide, (fun h => absurd h (by decide)), h2.lt⟩, h3⟩
theorem poff (w : World) (B g : Nat) (P : PP) (h : PwM w B g P) : Calls Try.prog 40 #[.pointer (some ⟨g, 0, none⟩)] w fun e w' => e = .returned (.bool P.off) ∧ w = w' := by
  obtain ⟨_, _, _, _, _, _, _, _, _, h1, _⟩ := h
  exact off_any _ _ _ _ _ _ _ _ _ _ h1

theorem ptorn (w : World) (B g : Nat) (P : PP) (h : PwM w B g P) : Calls Try.prog 65 #[.pointer (some ⟨g, 0, none⟩)] w fun e w' => e = .returned (.int .i64 P.torn) ∧ w = w' := by
  obtain ⟨_, _, _, _, _, _, _, _, _, h1, _, h3, _⟩ := h
  rw [h3]
  exact torn_any _ _ _ _ _ _ _ _ _ _ h1

theorem pspend (w : World) (B g : Nat) (P : PP) (h : PwM w B g P) (hd : P.due ≤ 1000000 ∨ P.due ≤ 9223372036854775807) : Calls Try.prog 63 #[.pointer (some ⟨g, 0, none⟩)] w fun e w' => e = .returned (.bool P.spent) ∧ PwM w' B g P.spend ∧ Below g w w' ∧ POn g w w' := by
  obtain ⟨off, life, keep, torn, due, nk, nt⟩ := P
  obtain ⟨ko, kl, kc, t1, lost, ko2, kl2, kc2, t2, h1, h2, h3, h4, h4', h5, h6⟩ := h
  simp only at h1 h2 h3 h4 h4' h5
  cases off with
  | true =>
    refine (spend_off w g _ _ _ _ _ _ _ h1).mono ?_
    rintro e w' ⟨rfl, rfl⟩
    exact ⟨rfl, ⟨ko, kl, kc, t1, lost, ko2, kl2, kc2, t2, h1, h2, h3, h4, h4', h5, h6⟩, Below.refl _ _, POn.refl _ _⟩
  | false =>
    by_cases hd1 : due < 1
    · refine (spend_free w g _ _ _ _ _ _ _ h1 hd1).mono ?_
      rintro e w' ⟨rfl, rfl⟩
      have e1 : PP.spent ⟨false, life, keep, torn, due, nk, nt⟩ = true := by unfold PP.spent; simp; omega
      have e2 : PP.spend ⟨false, life, keep, torn, due, nk, nt⟩ = ⟨false, life, keep, torn, due, nk, nt⟩ := by unfold PP.spend; simp [hd1]
      rw [e1, e2]
      exact ⟨rfl, ⟨ko, kl, kc, t1, lost, ko2, kl2, kc2, t2, h1, h2, h3, h4, h4', h5, h6⟩, Below.refl _ _, POn.refl _ _⟩
    · by_cases hd2 : due = 1
      · subst hd2
        obtain ⟨hn, rfl⟩ := h5 (by decide)
        refine (spend_last w g _ _ _ _ ko2 kl2 kc2 t2 h1).mono ?_
        rintro e w' ⟨rfl, hp, hB, ho⟩
        exact ⟨rfl, ⟨ko2, kl2, kc2, t2, true, none, 0, 0, 0, hp, hn.pon ho h6, rfl, Int.le_refl _, (by show (0 : Int) ≤ 9223372036854775807; decide), (fun h => absurd h (Int.lt_irrefl _)), h6⟩, hB, ho⟩
      · refine (spend_more w g _ _ _ _ _ _ _ h1 (by omega) h4').mono ?_
        rintro e w' ⟨rfl, hp, hB, ho⟩
        have e1 : PP.spent ⟨false, life, keep, torn, due, nk, nt⟩ = true := by unfold PP.spent; simp [hd2]
        have e2 : PP.spend ⟨false, life, keep, torn, due, nk, nt⟩ = ⟨false, life, keep, torn, due - 1, nk, nt⟩ := by unfold PP.spend; simp [hd1, hd2]
        rw [e1, e2]
        refine ⟨rfl, ⟨ko, kl, kc, t1, lost, ko2, kl2, kc2, t2, hp, h2.pon ho h6, h3, ?_, ?_, fun h => ⟨(h5 (by omega)).1.pon ho h6, (h5 (by omega)).2⟩, h6⟩, hB, ho⟩ <;> simp only <;> omega
theorem pstart (w : World) (B g : Nat) (P : PP) (h : PwM w B g P) (h0 : 0 ≤ P.life) (hl : P.life ≤ 1000000) : Calls Try.prog 29 #[.pointer (some ⟨g, 0, none⟩)] w fun e w' => e = .returned (.tuple #[]) ∧ PwM w' B g P.start ∧ Below g w w' ∧ POn g w w' := by
  obtain ⟨off, life, keep, torn, due, nk, nt⟩ := P
  obtain ⟨ko, kl, kc, t1, lost, ko2, kl2, kc2, t2, h1, h2, h3, h4, h4', h5, h6⟩ := h
  simp only at h1 h2 h3 h4 h4' h5 h0 hl
  refine (start_only w g _ _ _ _ _ _ _ _ h1 h0 hl).mono ?_
  rintro e w' ⟨rfl, hp, hB, ho⟩
  refine ⟨rfl, ?_, hB, ho⟩
  cases off <;> exact ⟨ko, kl, kc, t1, lost, ko2, kl2, kc2, t2, hp, h2.pon ho h6, h3, h4, h4', fun h => ⟨(h5 h).1.pon ho h6, (h5 h).2⟩, h6⟩
theorem pcut (w : World) (B g : Nat) (P : PP) (ao : Option Addr) (m cap : Nat) (bs : List Bool) (t : Int) (h : PwM w B g P) (hBw : B ≤ w.heap.size) (hl : bs.length = m) (hm : m ≤ 1000000) (hb : Bl w ao bs) (hnn : ao = none → m = 0 ∧ cap = 0) : Calls Try.prog 31 #[.pointer (some ⟨g, 0, none⟩), .slice ao m cap, .int .i64 t] w fun e w' => e = .returned (.tuple #[]) ∧ PwM w' B g (P.cut bs t) ∧ Below g w w' ∧ POn g w w' := by
  obtain ⟨off, life, keep, torn, due, nk, nt⟩ := P
  obtain ⟨ko, kl, kc, t1, lost, ko2, kl2, kc2, t2, h1, h2, h3, h4, h4', h5, h6⟩ := h
  simp only at h1 h2 h3 h4 h4' h5
  cases off with
  | true =>
    refine (cut_off w g _ _ _ _ _ _ _ _ _ h1).mono ?_
    rintro e w' ⟨rfl, rfl⟩
    exact ⟨rfl, ⟨ko, kl, kc, t1, lost, ko2, kl2, kc2, t2, h1, h2, h3, h4, h4', h5, h6⟩, Below.refl _ _, POn.refl _ _⟩
  | false =>
    refine (cut_on2 w g _ _ _ _ _ _ _ ao m cap bs t h1 hl hm hb hnn).mono ?_
    rintro e w' ⟨k3, c3, rfl, hp, hL, hB, ho⟩
    exact ⟨rfl, ⟨k3, m, c3, t, true, none, 0, 0, 0, hp, hL.low hBw, rfl, Int.le_refl _, (by show (0 : Int) ≤ 9223372036854775807; decide), (fun h => absurd h (Int.lt_irrefl _)), h6⟩, hB, ho⟩
theorem ptrip (w : World) (B g : Nat) (P : PP) (n : Int) (ao : Option Addr) (m cap : Nat) (bs : List Bool) (t : Int) (h : PwM w B g P) (hn : n ≤ 9223372036854775807) (hBw : B ≤ w.heap.size) (hl : bs.length = m) (hm : m ≤ 1000000) (hb : Bl w ao bs) (hag : bs = [] ∨ ∀ b o s, ao = some ⟨b, o, s⟩ → b ≠ g) (hnn : ao = none → m = 0 ∧ cap = 0) : Calls Try.prog 27 #[.pointer (some ⟨g, 0, none⟩), .int .i64 n, .slice ao m cap, .int .i64 t] w fun e w' => e = .returned (.tuple #[]) ∧ PwM w' B g (P.trip n bs t) ∧ Below g w w' ∧ POn g w w' := by
  obtain ⟨off, life, keep, torn, due, nk, nt⟩ := P
  obtain ⟨ko, kl, kc, t1, lost, ko2, kl2, kc2, t2, h1, h2, h3, h4, h4', h5, h6⟩ := h
  simp only at h1 h2 h3 h4 h4' h5
  by_cases hn1 : n < 1
  · refine (trip_none w g _ _ _ _ _ _ _ _ n _ t h1 hn1).mono ?_
    rintro e w' ⟨rfl, hp, hB, ho⟩
    have e2 : PP.trip ⟨off, life, keep, torn, due, nk, nt⟩ n bs t = ⟨off, life, keep, torn, 0, [], 0⟩ := by unfold PP.trip; rw [if_neg (by omega)]
    rw [e2]
    exact ⟨rfl, ⟨ko, kl, kc, t1, lost, none, 0, 0, 0, hp, h2.pon ho h6, h3, Int.le_refl _, (by show (0 : Int) ≤ 9223372036854775807; decide), (fun h => absurd h (Int.lt_irrefl _)), h6⟩, hB, ho⟩
  · refine (trip_some w g _ _ _ _ _ _ _ _ n ao m cap bs t h1 (by omega) hl hm hb hag hnn).mono ?_
    rintro e w' ⟨k3, c3, rfl, hp, hL, hB, ho⟩
    have e2 : PP.trip ⟨off, life, keep, torn, due, nk, nt⟩ n bs t = ⟨off, life, keep, torn, n, bs, t⟩ := by unfold PP.trip; rw [if_pos (by omega)]
    rw [e2]
    refine ⟨rfl, ⟨ko, kl, kc, t1, lost, k3, m, c3, t, hp, h2.pon ho h6, h3, ?_, ?_, fun h => ⟨hL.low hBw, rfl⟩, h6⟩, hB, ho⟩ <;> simp only <;> omega

end Go.Proofs.Ytmcbmemgeegodaa
