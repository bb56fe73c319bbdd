/-
  The contracts of the power's methods: what takes lists of bools.
-/
import Derived.Test.YtcldfnnnjmhkjaaPow
namespace Go.Proofs.Ytcldfnnnjmhkjaa
open Go.RowKit
set_option linter.unusedVariables false

theorem Try.info4 : (Try.prog.info? 4).map (fun i => (i.zero, i.size, i.bytes)) = some (some (.bool false), 1, 1) := by kernel_rfl

/-- The bools bs lie at ao. -/
def Bl (w : World) (ao : Option Addr) (bs : List Bool) : Prop :=
  bs = [] ∨ ∃ b o, ao = some ⟨b, o, none⟩ ∧ ∀ j, j < bs.length → w.cell? ⟨b, o + j, none⟩ = some (.bool (bs.getD j false))
theorem Bl.below {w w' : World} {ao : Option Addr} {bs : List Bool} (h : Bl w ao bs) (hB : Below w.heap.size w w') : Bl w' ao bs := by
  rcases h with h | ⟨b, o, ha, hc⟩
  · exact .inl h
  · exact .inr ⟨b, o, ha, fun j hj => by have := hc j hj; rw [hB.cell (cell_lt this), this]⟩
theorem Bl.set {w : World} {ao : Option Addr} {bs : List Bool} {g i : Nat} {u : Value} (h : Bl w ao bs) (hn : ∀ b o s, ao = some ⟨b, o, s⟩ → b ≠ g) : Bl (w.setCell ⟨g, i, none⟩ u) ao bs := by
  rcases h with h | ⟨b, o, ha, hc⟩
  · exact .inl h
  · refine .inr ⟨b, o, ha, fun j hj => ?_⟩
    rw [← hc j hj]
    apply World.cell?_of_block
    rw [Below.heap_setCell _ _ _ _ (hn b o none ha)]
theorem Bl.cells {w : World} {ad : Addr} {bs : List Bool} (h : Bl w (some ad) bs) : ∀ j u, (bs.map Value.bool)[j]? = some u → w.cell? (ad.add j) = some u := by
  intro j u hu
  obtain ⟨hj, hu⟩ := List.getElem?_eq_some_iff.1 hu
  simp at hj
  rcases h with h | ⟨b, o, ha, hc⟩
  · subst h; simp at hj
  · obtain rfl := Option.some.inj ha
    rw [Addr.add_lit, hc j hj, ← hu]
    simp [List.getD, hj]
theorem bools_oneCell (bs : List Bool) : ∀ u ∈ bs.map Value.bool, u.oneCell' = true := by
  intro u hu
  obtain ⟨_, _, rfl⟩ := List.mem_map.1 hu
  rfl

/-- What Clone leaves. -/
def ClonePost (w : World) (n : Nat) (bs : List Bool) (e : Ending) (w' : World) : Prop :=
  ∃ ko kc, e = .returned (.slice ko n kc) ∧ Bl w' ko bs ∧ Below w.heap.size w w' ∧ (∀ b o s, ko = some ⟨b, o, s⟩ → w.heap.size ≤ b)

theorem clone_nil (w : World) : Calls Try.prog 34 #[.slice none 0 0] w fun e w' => e = .returned (.slice none 0 0) ∧ w = w' := by
  have q : ∀ (w : World) (a : Option Addr) (n c n' c' : Nat), (binOp .eql 47 (.slice a n c) (.slice none n' c')).run Try.prog w = .ok (.bool a.isNone) w := fun w a n c n' c' => Lib.run_eql_slice_nil w _ _ a n c n' c' Try.underlying47
  go_enter Try.func34, Try.ntmps34
  go_wp2
  go_ret
  exact ⟨rfl, rfl⟩

theorem clone_some (ad : Addr) (n cap : Nat) (bs : List Bool) (w : World) (hl : bs.length = n) (hm : n ≤ 1000000) (h : Bl w (some ad) bs) :
    Calls Try.prog 34 #[.slice (some ad) n cap] w (ClonePost w n bs) := by
  obtain ⟨i0, hi, hz0, hz1, hz2⟩ := info_parts Try.info4
  have q : ∀ (w : World) (a : Option Addr) (n c n' c' : Nat), (binOp .eql 47 (.slice a n c) (.slice none n' c')).run Try.prog w = .ok (.bool a.isNone) w := fun w a n c n' c' => Lib.run_eql_slice_nil w _ _ a n c n' c' Try.underlying47
  have H := Lib.hid h; have HL := Lib.hid hl
  clear h hl
  go_enter Try.func34, Try.ntmps34
  have hown : (w.alloc (.cells #[] 4)).ownsRow w.heap.size 4 1 (.slice (some ⟨w.heap.size, 0, none⟩) 0 0) 0 [] := World.ownsRow_lit (base := w.heap.size) (e := 4) (size := 1) w #[] 0 (Nat.le_refl _) (Nat.zero_le _) rfl
  have hB0 : Below w.heap.size w (w.alloc (.cells #[] 4)) := (Below.refl _ _).alloc (Nat.le_refl _) _
  have HO := Lib.hid hown; have HB0 := Lib.hid hB0
  clear hown hB0
  go_wp2_with (at_builtin; refine wpList_append_own _ rfl (.tmp 5) (.tmp 6) 47 rfl w.heap.size 4 i0 (.bool false) 1 1 Try.underlying47 hi hz0 hz1 hz2 rfl (by decide) _ 0 _ rfl HO.out ad n cap (bs.map .bool) rfl ?c0 ?c1 ?c2 ?c3 ?c4 ?c5 ?_)
  case c0 => simp [HL.out]
  case c1 => exact (H.out.below HB0.out).cells
  case c2 => exact bools_oneCell _
  case c3 => unfold maxLen; omega
  case c4 => omega
  case c5 => simp
  intro v' w1 hown1 hgrow1 hnil
  have HB1 := Lib.hid (Below.grown HB0.out hgrow1 (by simp) (fun k h => by cases h; exact Nat.le_refl _))
  have hv : ∃ ko kc, v' = .slice ko n kc ∧ Bl w1 ko bs ∧ (∀ b o s, ko = some ⟨b, o, s⟩ → w.heap.size ≤ b) := by
    rcases hown1.2 with ⟨h1, h2⟩ | ⟨g', cap', cur, h1, hge, _, _, _, _⟩
    · subst h2; exact ⟨none, 0, h1, .inl (List.eq_nil_of_length_eq_zero HL.out), fun b o s h => by cases h⟩
    · subst h1
      refine ⟨_, _, rfl, .inr ⟨g', 0, rfl, fun j hj => ?_⟩, fun b o s h => by cases h; exact hge⟩
      rw [Nat.zero_add, hown1.cellAt j (by rw [HL.out] at hj; omega)]
      simp [List.getD, hj]
  obtain ⟨ko, kc, hv, hbl, hge⟩ := hv
  have HGE := Lib.hid hge
  rw [hv]
  have HBL := Lib.hid hbl
  clear hbl hown1 hgrow1 hnil hv hge
  go_wp2
  go_ret
  exact ⟨ko, kc, rfl, HBL.out, HB1.out, HGE.out⟩

/-- Clone of whatever list. -/
theorem clone_any (ao : Option Addr) (n cap : Nat) (bs : List Bool) (w : World) (hl : bs.length = n) (hm : n ≤ 1000000) (h : Bl w ao bs) (hn : ao = none → n = 0 ∧ cap = 0) :
    Calls Try.prog 34 #[.slice ao n cap] w (ClonePost w n bs) := by
  cases ao with
  | some ad => exact clone_some ad n cap bs w hl hm h
  | none =>
    obtain ⟨rfl, rfl⟩ := hn rfl
    refine (clone_nil w).mono ?_
    rintro e w' ⟨rfl, rfl⟩
    exact ⟨none, 0, rfl, .inl (List.eq_nil_of_length_eq_zero hl), Below.refl _ _, fun b o s h => by cases h⟩

theorem Pw.kept {w w' : World} {g : Nat} {off : Bool} {life : Int} {k1 : Value} {t1 : Int} {lost : Bool} {k2 : Value} {t2 due : Int} (h : Pw w g off life k1 t1 lost k2 t2 due) (hB : Below w.heap.size w w') : Pw w' g off life k1 t1 lost k2 t2 due := by
  unfold Pw at *
  rw [hB.block g (Array.getElem?_eq_some_iff.1 h).1, h]
theorem Pw.lt {w : World} {g : Nat} {off : Bool} {life : Int} {k1 : Value} {t1 : Int} {lost : Bool} {k2 : Value} {t2 due : Int} (h : Pw w g off life k1 t1 lost k2 t2 due) : g < w.heap.size := (Array.getElem?_eq_some_iff.1 h).1
theorem Pw.c {w : World} {g : Nat} {off : Bool} {life : Int} {k1 : Value} {t1 : Int} {lost : Bool} {k2 : Value} {t2 due : Int} (h : Pw w g off life k1 t1 lost k2 t2 due) :
    w.cell? ⟨g, 0, none⟩ = some (.bool off) ∧ w.cell? ⟨g, 1, none⟩ = some (.int .i64 life) ∧ w.cell? ⟨g, 2, none⟩ = some k1 ∧ w.cell? ⟨g, 3, none⟩ = some (.int .i64 t1) ∧ w.cell? ⟨g, 4, none⟩ = some (.bool lost) ∧
    w.cell? ⟨g, 5, none⟩ = some k2 ∧ w.cell? ⟨g, 6, none⟩ = some (.int .i64 t2) ∧ w.cell? ⟨g, 7, none⟩ = some (.int .i64 due) ∧ ∀ i, w.frozen? ⟨g, i, none⟩ = false :=
  ⟨by rw [Joins.cell_of_block h]; rfl, by rw [Joins.cell_of_block h]; rfl, by rw [Joins.cell_of_block h]; rfl, by rw [Joins.cell_of_block h]; rfl, by rw [Joins.cell_of_block h]; rfl, by rw [Joins.cell_of_block h]; rfl, by rw [Joins.cell_of_block h]; rfl, by rw [Joins.cell_of_block h]; rfl, fun i => Joins.unfrozen_of_block h i⟩

/-- The first half of Trip: nothing is armed. -/
theorem pw_trip0 {W : World} {g : Nat} {off : Bool} {life : Int} {k1 : Value} {t1 : Int} {lost : Bool} {k2 : Value} {t2 due : Int} (h : Pw W g off life k1 t1 lost k2 t2 due) :
    Pw (((W.setCell ⟨g, 7, none⟩ (.int .i64 0)).setCell ⟨g, 5, none⟩ (.slice none 0 0)).setCell ⟨g, 6, none⟩ (.int .i64 0)) g off life k1 t1 lost (.slice none 0 0) 0 0 := by
  have b5 := Joins.block_setCell (i := 7) h (.int .i64 0)
  have b6 := Joins.block_setCell (i := 5) b5 (.slice none 0 0)
  have b7 := Joins.block_setCell (i := 6) b6 (.int .i64 0)
  unfold Pw
  rw [b7]
  simp
theorem pw_trip1 {W : World} {g : Nat} {off : Bool} {life : Int} {k1 : Value} {t1 : Int} {lost : Bool} {k2 : Value} {t2 due : Int} (n : Int) (k : Value) (t : Int) (h : Pw W g off life k1 t1 lost k2 t2 due) :
    Pw (((W.setCell ⟨g, 7, none⟩ (.int .i64 n)).setCell ⟨g, 5, none⟩ k).setCell ⟨g, 6, none⟩ (.int .i64 t)) g off life k1 t1 lost k t n := by
  have b5 := Joins.block_setCell (i := 7) h (.int .i64 n)
  have b6 := Joins.block_setCell (i := 5) b5 k
  have b7 := Joins.block_setCell (i := 6) b6 (.int .i64 t)
  unfold Pw
  rw [b7]
  simp

set_option maxHeartbeats 1000000 in
theorem trip_none (w : World) (g : Nat) (off : Bool) (life : Int) (k1 : Value) (t1 : Int) (lost : Bool) (k2 : Value) (t2 due : Int) (n : Int) (kv : Value) (t : Int) (h : Pw w g off life k1 t1 lost k2 t2 due) (hn : n < 1) :
    Calls Try.prog 23 #[.pointer (some ⟨g, 0, none⟩), .int .i64 n, kv, .int .i64 t] w fun e w' => e = .returned (.tuple #[]) ∧ Pw w' g off life k1 t1 lost (.slice none 0 0) 0 0 ∧ Below g w w' := by
  obtain ⟨c0, c1, c2, c3, c4, c5, c6, c7, f0⟩ := h.c
  have HP := Lib.hid (pw_trip0 h)
  clear h
  go_enter Try.func23, Try.ntmps23
  go_wp2
  go_end0
  exact ⟨rfl, HP.out, (((Below.refl g w).setCell (Nat.le_refl _) _).setCell (Nat.le_refl _) _).setCell (Nat.le_refl _) _⟩

/-- What an armed Trip leaves. -/
def TripPost (w : World) (g : Nat) (off : Bool) (life : Int) (k1 : Value) (t1 : Int) (lost : Bool) (n : Int) (m : Nat) (bs : List Bool) (t : Int) (e : Ending) (w' : World) : Prop :=
  ∃ ko kc, e = .returned (.tuple #[]) ∧ Pw w' g off life k1 t1 lost (.slice ko m kc) t n ∧ Bl w' ko bs ∧ Below g w w' ∧ (∀ b o s, ko = some ⟨b, o, s⟩ → b ≠ g)

set_option maxHeartbeats 1000000 in
theorem trip_some (w : World) (g : Nat) (off : Bool) (life : Int) (k1 : Value) (t1 : Int) (lost : Bool) (k2 : Value) (t2 due : Int) (n : Int) (ao : Option Addr) (m cap : Nat) (bs : List Bool) (t : Int) (h : Pw w g off life k1 t1 lost k2 t2 due) (hn : 1 ≤ n)
    (hl : bs.length = m) (hm : m ≤ 1000000) (hb : Bl w ao bs) (hag : ∀ b o s, ao = some ⟨b, o, s⟩ → b ≠ g) (hnn : ao = none → m = 0 ∧ cap = 0) :
    Calls Try.prog 23 #[.pointer (some ⟨g, 0, none⟩), .int .i64 n, .slice ao m cap, .int .i64 t] w (TripPost w g off life k1 t1 lost n m bs t) := by
  obtain ⟨c0, c1, c2, c3, c4, c5, c6, c7, f0⟩ := h.c
  have hp0 := pw_trip0 h
  obtain ⟨W, hW⟩ : ∃ W, W = (((w.setCell ⟨g, 7, none⟩ (.int .i64 0)).setCell ⟨g, 5, none⟩ (.slice none 0 0)).setCell ⟨g, 6, none⟩ (.int .i64 0)) := ⟨_, rfl⟩
  have hbW : Bl W ao bs := by
    rcases hb with h' | ⟨b, o, ha, hc⟩
    · exact .inl h'
    · refine .inr ⟨b, o, ha, fun j hj => ?_⟩
      have hne := hag b o none ha
      rw [hW]
      rw [← hc j hj]
      apply World.cell?_of_block
      rw [Below.heap_setCell _ _ _ _ hne, Below.heap_setCell _ _ _ _ hne, Below.heap_setCell _ _ _ _ hne]
  have hbelow : Below g w W := by rw [hW]; exact (((Below.refl g w).setCell (Nat.le_refl _) _).setCell (Nat.le_refl _) _).setCell (Nat.le_refl _) _
  have HC := Lib.hid (clone_any ao m cap bs W hl hm hbW hnn)
  rw [← hW] at hp0
  have HP := Lib.hid hp0; have HBW := Lib.hid hbelow; have HW := Lib.hid hW
  clear h hb hbW hbelow hp0 hag hnn hW
  go_enter Try.func23, Try.ntmps23
  go_wp2_with (go_at_call 34; rw [← HW.out]; refine HC.out.mono ?_; rintro e w1 ⟨ko, kc, rfl, hbl, hB1, hge⟩; have HGE := Lib.hid hge; clear hge; have hp1 := HP.out.kept hB1; have hcs := hp1.c; have HP1 := Lib.hid hp1; have HBL := Lib.hid hbl; have HB1 := Lib.hid hB1; clear hp1 hbl hB1; obtain ⟨e0, e1, e2, e3, e4, e5, e6, e7, ef⟩ := hcs)
  go_end0
  have hgW : g < W.heap.size := HP.out.lt
  have hne : ∀ b o s, ko = some ⟨b, o, s⟩ → b ≠ g := fun b o s h => by have := HGE.out b o s h; omega
  exact ⟨ko, kc, rfl, pw_trip1 n _ t HP1.out, ((HBL.out.set hne).set hne).set hne, (HBW.out.trans (HB1.out.mono (Nat.le_of_lt hgW))).trans ((((Below.refl g _).setCell (Nat.le_refl _) _).setCell (Nat.le_refl _) _).setCell (Nat.le_refl _) _), hne⟩

/-- What Cut of a power that is on leaves. -/
def CutPost (w : World) (g : Nat) (life : Int) (m : Nat) (bs : List Bool) (t : Int) (e : Ending) (w' : World) : Prop :=
  ∃ ko kc, e = .returned (.tuple #[]) ∧ Pw w' g true life (.slice ko m kc) t true (.slice none 0 0) 0 0 ∧ Bl w' ko bs ∧ Below g w w'

theorem cut_off (w : World) (g : Nat) (life : Int) (k1 : Value) (t1 : Int) (lost : Bool) (k2 : Value) (t2 due : Int) (kv : Value) (t : Int) (h : Pw w g true life k1 t1 lost k2 t2 due) :
    Calls Try.prog 31 #[.pointer (some ⟨g, 0, none⟩), kv, .int .i64 t] w fun e w' => e = .returned (.tuple #[]) ∧ w = w' := by
  obtain ⟨c0, c1, c2, c3, c4, c5, c6, c7, f0⟩ := h.c
  clear h
  go_enter Try.func31, Try.ntmps31
  go_wp2
  go_end0
  exact ⟨rfl, rfl⟩

theorem Bl.only {w w' : World} {ao : Option Addr} {bs : List Bool} {g : Nat} (h : Bl w ao bs) (hB : Only g w w') (hn : ∀ b o s, ao = some ⟨b, o, s⟩ → b ≠ g) : Bl w' ao bs := by
  rcases h with h | ⟨b, o, ha, hc⟩
  · exact .inl h
  · refine .inr ⟨b, o, ha, fun j hj => ?_⟩
    have := cell_lt (hc j hj)
    rw [← hc j hj]
    exact World.cell?_of_block (hB b this (hn b o none ha))

set_option maxHeartbeats 1000000 in
theorem cut_on (w : World) (g : Nat) (life : Int) (k1 : Value) (t1 : Int) (lost : Bool) (k2 : Value) (t2 due : Int) (ao : Option Addr) (m cap : Nat) (bs : List Bool) (t : Int) (h : Pw w g false life k1 t1 lost k2 t2 due)
    (hl : bs.length = m) (hm : m ≤ 1000000) (hb : Bl w ao bs) (hnn : ao = none → m = 0 ∧ cap = 0) :
    Calls Try.prog 31 #[.pointer (some ⟨g, 0, none⟩), .slice ao m cap, .int .i64 t] w (CutPost w g life m bs t) := by
  obtain ⟨c0, c1, c2, c3, c4, c5, c6, c7, f0⟩ := h.c
  have HC := Lib.hid (clone_any ao m cap bs w hl hm hb hnn)
  have HP := Lib.hid h
  clear h hb hnn
  go_enter Try.func31, Try.ntmps31
  go_wp2_with (first
    | (go_at_call 34; refine HC.out.mono ?_; rintro e w1 ⟨ko, kc, rfl, hbl, hB1, hge⟩; have HGE := Lib.hid hge; have HP1 := Lib.hid (HP.out.kept hB1); have HBL := Lib.hid hbl; have HB1 := Lib.hid hB1; clear hge hbl hB1)
    | (go_at_call 35; refine (lose_any _ g _ _ _ _ _ _ _ _ ko m kc t HP1.out).mono ?_; rintro e w2 ⟨rfl, hp2, hB2, ho2⟩; have HP2 := Lib.hid hp2; have HB2 := Lib.hid hB2; have HO2 := Lib.hid ho2; clear hp2 hB2 ho2))
  go_end0
  have hgW : g < w.heap.size := HP.out.lt
  exact ⟨ko, kc, rfl, HP2.out, HBL.out.only HO2.out (fun b o s h => by have := HGE.out b o s h; omega), (HB1.out.mono (Nat.le_of_lt hgW)).trans HB2.out⟩

theorem kept_out (w : World) (g : Nat) (off : Bool) (life : Int) (ko : Option Addr) (kl kc : Nat) (t1 : Int) (lost : Bool) (k2 : Value) (t2 due : Int) (k : Int) (h : Pw w g off life (.slice ko kl kc) t1 lost k2 t2 due) (hk : k < 0 ∨ (kl : Int) ≤ k) :
    Calls Try.prog 29 #[.pointer (some ⟨g, 0, none⟩), .int .i64 k] w fun e w' => e = .returned (.bool false) ∧ w = w' := by
  obtain ⟨c0, c1, c2, c3, c4, c5, c6, c7, f0⟩ := h.c
  clear h
  by_cases h0 : k < 0
  · have d1 : decide (0 ≤ k) = false := decide_eq_false (by omega)
    go_enter Try.func29, Try.ntmps29
    go_wp2
    go_ret
    exact ⟨rfl, rfl⟩
  · have d1 : decide (0 ≤ k) = true := decide_eq_true (by omega)
    have d2 : decide (k < (kl : Int)) = false := decide_eq_false (by omega)
    go_enter Try.func29, Try.ntmps29
    go_wp2
    go_ret
    exact ⟨rfl, rfl⟩

theorem kept_in (w : World) (g : Nat) (off : Bool) (life : Int) (b o : Nat) (kl kc : Nat) (t1 : Int) (lost : Bool) (k2 : Value) (t2 due : Int) (k : Nat) (x : Bool) (h : Pw w g off life (.slice (some ⟨b, o, none⟩) kl kc) t1 lost k2 t2 due) (hk : k < kl) (hx : w.cell? ⟨b, o + k, none⟩ = some (.bool x)) :
    Calls Try.prog 29 #[.pointer (some ⟨g, 0, none⟩), .int .i64 k] w fun e w' => e = .returned (.bool x) ∧ w = w' := by
  obtain ⟨c0, c1, c2, c3, c4, c5, c6, c7, f0⟩ := h.c
  clear h
  have d2 : decide (k < kl) = true := decide_eq_true hk
  go_enter Try.func29, Try.ntmps29
  go_wp2
  go_ret
  exact ⟨rfl, rfl⟩

end Go.Proofs.Ytcldfnnnjmhkjaa
