/-
  Tapes: the comparison; wakes.
-/
import Derived.Test.YtmcbmemgeegodaaMed6
namespace Go.Proofs.Ytmcbmemgeegodaa
open Go.RowKit
set_option linter.unusedVariables false

theorem key_step (ks ks' : List Key) (k : Nat) (x x' : Key) (h : ks[k]? = some x) (h' : ks'[k]? = some x') (e : ks.take k = ks'.take k) (ek : x = x') : ks.take (k + 1) = ks'.take (k + 1) := by
  rw [List.take_add_one, List.take_add_one, h, h', e, ek]

theorem cells3 {w : World} {g T : Nat} {v0 v1 v2 : Value} (h : w.heap[g]? = some (.cells #[v0, v1, v2] T (0, 0))) : w.cell? ⟨g, 0, none⟩ = some v0 ∧ w.cell? ⟨g, 1, none⟩ = some v1 ∧ w.cell? ⟨g, 2, none⟩ = some v2 :=
  ⟨by simp [World.cell?, h], by simp [World.cell?, h], by simp [World.cell?, h]⟩

set_option maxHeartbeats 4000000 in
/-- THE COMPARISON OF TAPES. -/
theorem keep_med (t t' : Tap) (w : World) (h : t.ok w) (h' : t'.ok w) : Calls Try.prog 39 #[.agg #[.int .i64 t.p, .slice t.a t.n t.c], .agg #[.int .i64 t'.p, .slice t'.a t'.n t'.c]] w fun e w' => e = .returned (.bool (decide (t.p = t'.p ∧ t.ks = t'.ks))) ∧ Below w.heap.size w w' := by
  have hm := Nat.le_trans h.room h.cm
  have hm' := Nat.le_trans h'.room h'.cm
  unfold maxLen at hm hm'
  obtain ⟨g1, hg1⟩ : ∃ g1, g1 = w.heap.size + 1 := ⟨_, rfl⟩
  obtain ⟨W0, hW0⟩ : ∃ W0, W0 = (w.alloc (.cells #[.int .i64 t.p, .slice t.a t.n t.c] 24)).alloc (.cells #[.int .i64 t'.p, .slice t'.a t'.n t'.c] 24) := ⟨_, rfl⟩
  obtain ⟨hB0, hx0, hx1⟩ := two' hW0.symm hg1
  have HCS := Lib.hid (h.cells.below hB0); have HL := Lib.hid h.len
  have HCS' := Lib.hid (h'.cells.below hB0); have HL' := Lib.hid h'.len
  obtain ⟨r, hr⟩ : ∃ r, r = decide (t.p = t'.p ∧ t.ks = t'.ks) := ⟨_, rfl⟩
  rw [← hr]
  obtain ⟨p, a, n, c, cs⟩ := t
  obtain ⟨p', a', n', c', cs'⟩ := t'
  simp only [Tap.ks] at hm hm' hx0 hx1 HCS HL HCS' HL' hW0 hr ⊢
  have HB0 := Lib.hid hB0; have HW0 := Lib.hid hW0; have HG1 := Lib.hid hg1
  clear h h' hB0 hW0 hg1
  by_cases hp : p = p'
  · have d1 : (p != p') = false := by simp [hp]
    by_cases hn : n = n'
    · subst hn
      have d2 : ((n : Int) != (n : Int)) = false := by simp
      have hr2 : r = decide (keys cs = keys cs') := by rw [hr]; exact decide_eq_decide.2 ⟨fun h => h.2, fun h => ⟨hp, h⟩⟩
      have HR := Lib.hid hr2
      obtain ⟨x0, x1, _⟩ := cells2 hx0
      obtain ⟨y0, y1, _⟩ := cells2 hx1
      have X0 := Lib.hid hx0; have X1 := Lib.hid hx1
      clear hr hr2 hx0 hx1 hp
      go_enter Try.func39, Try.ntmps39
      go_wp2
      rw [← HW0.out, ← HG1.out]
      clear d1 d2 x0 x1 y0 y1
      go_loopw [5] (fun i wr => ∃ k : Nat, k ≤ n ∧ i = .int .i64 k ∧ (keys cs).take k = (keys cs').take k ∧ Below W0.heap.size W0 wr) (fun i _ => n - (intOf i).toNat)
      case atStart => exact ⟨0, Nat.zero_le _, rfl, rfl, Below.refl _ _⟩
      case round =>
        obtain ⟨k, hk, rfl, hall, hB⟩ := hrel
        obtain ⟨x0, x1, _⟩ := cells2 (cells2at X0.out hB)
        obtain ⟨y0, y1, _⟩ := cells2 (cells2at X1.out hB)
        by_cases hlt : k < n
        · have e2 : decide ((k : Int) < (n : Int)) = true := decide_eq_true (by omega)
          have hlt1 : k < cs.length := by rw [HL.out]; exact hlt
          have hlt2 : k < cs'.length := by rw [HL'.out]; exact hlt
          obtain ⟨b, o, rfl, c0, c1, c2, hd⟩ := (HCS.out.below hB).at hlt1
          obtain ⟨b', o', rfl, c0', c1', c2', hd'⟩ := (HCS'.out.below hB).at hlt2
          have hk1 := keys_get cs k hlt1
          have hk2 := keys_get cs' k hlt2
          obtain ⟨x, hx'⟩ : ∃ x, x = cs[k] := ⟨_, rfl⟩
          obtain ⟨y, hy'⟩ : ∃ y, y = cs'[k] := ⟨_, rfl⟩
          rw [← hx'] at c0 c1 c2 hd hk1
          rw [← hy'] at c0' c1' c2' hd' hk2
          have hkt : x.key = y.key → (keys cs).take (k + 1) = (keys cs').take (k + 1) := fun e => key_step _ _ k _ _ hk1 hk2 hall e
          have hkf : x.key ≠ y.key → r = false := fun e => by
            rw [HR.out]
            refine decide_eq_false fun e2 => e ?_
            rw [e2, hk2] at hk1
            exact (Option.some.inj hk1).symm
          have hcmp := fun V (hV : Below wr.heap.size wr V) => bytes_cmp x.d.a y.d.a x.d.l y.d.l x.d.c y.d.c x.d.z y.d.z V hd.len hd'.len hd.small (hd.below hV).rd (hd'.below hV).rd
          obtain ⟨xb, hxb⟩ : ∃ xb, xb = x.b := ⟨_, rfl⟩
          obtain ⟨yb, hyb⟩ : ∃ yb, yb = y.b := ⟨_, rfl⟩
          obtain ⟨xk, hxk⟩ : ∃ xk, xk = x.k := ⟨_, rfl⟩
          obtain ⟨yk, hyk⟩ : ∃ yk, yk = y.k := ⟨_, rfl⟩
          have hkey : x.key = y.key ↔ xk = yk ∧ xb = yb ∧ x.d.z = y.d.z := by
            rw [hxb, hyb, hxk, hyk]; unfold Cel.key; simp only [Prod.mk.injEq]
            exact ⟨fun h => ⟨h.1, h.2.2, h.2.1⟩, fun h => ⟨h.1, h.2.2, h.2.1⟩⟩
          rw [← hxk] at c0
          rw [← hyk] at c0'
          rw [← hxb] at c2
          rw [← hyb] at c2'
          have HK := Lib.hid hkt; have HF := Lib.hid hkf; have HC := Lib.hid hcmp; have HB := Lib.hid hB; have HKEY := Lib.hid hkey
          have i1 : (0 : Int) ≤ (k : Int) := by omega
          have i2 : (k : Int) < (n : Int) := by omega
          clear hall hB hd hd' hk1 hk2 hx' hy' hkt hkf hcmp hkey hxb hyb hxk hyk
          have hbel : ∀ o1 o2, Below wr.heap.size wr ((wr.alloc o1).alloc o2).drew := fun o1 o2 => (((Below.refl _ _).alloc (Nat.le_refl _) _).alloc (by simp) _).drew
          have HBL := Lib.hid hbel
          clear hbel
          by_cases hkk : xk = yk
          · subst hkk
            by_cases hbb : xb = yb
            · subst hbb
              obtain ⟨zz, hzz⟩ : ∃ zz, zz = decide (x.d.z = y.d.z) := ⟨_, rfl⟩
              rw [← hzz] at HC
              have HZ := Lib.hid hzz
              have HCELL : Hid (∀ V, Below wr.heap.size wr V → V.cell? ⟨w.heap.size, 1, none⟩ = some (.slice (some ⟨b, o, none⟩) n c) ∧ V.cell? ⟨g1, 1, none⟩ = some (.slice (some ⟨b', o', none⟩) n c') ∧ V.cell? ⟨b, o + k * 3, none⟩ = some (.int .i64 xk) ∧ V.cell? ⟨b, o + k * 3 + 1, none⟩ = some (.slice x.d.a x.d.l x.d.c) ∧ V.cell? ⟨b, o + k * 3 + 2, none⟩ = some (.bool xb) ∧ V.cell? ⟨b', o' + k * 3, none⟩ = some (.int .i64 xk) ∧ V.cell? ⟨b', o' + k * 3 + 1, none⟩ = some (.slice y.d.a y.d.l y.d.c) ∧ V.cell? ⟨b', o' + k * 3 + 2, none⟩ = some (.bool xb)) := fun V hV =>
                ⟨by rw [hV.cell (cell_lt x1)]; exact x1, by rw [hV.cell (cell_lt y1)]; exact y1, by rw [hV.cell (cell_lt c0)]; exact c0, by rw [hV.cell (cell_lt c1)]; exact c1, by rw [hV.cell (cell_lt c2)]; exact c2, by rw [hV.cell (cell_lt c0')]; exact c0', by rw [hV.cell (cell_lt c1')]; exact c1', by rw [hV.cell (cell_lt c2')]; exact c2'⟩
              clear hzz
              go_wp2
              go_region_held3 (fun V => V.cell? ⟨w.heap.size, 1, none⟩ = some (.slice (some ⟨b, o, none⟩) n c) ∧ V.cell? ⟨g1, 1, none⟩ = some (.slice (some ⟨b', o', none⟩) n c') ∧ V.cell? ⟨b, o + k * 3, none⟩ = some (.int .i64 xk) ∧ V.cell? ⟨b, o + k * 3 + 1, none⟩ = some (.slice x.d.a x.d.l x.d.c) ∧ V.cell? ⟨b, o + k * 3 + 2, none⟩ = some (.bool xb) ∧ V.cell? ⟨b', o' + k * 3, none⟩ = some (.int .i64 xk) ∧ V.cell? ⟨b', o' + k * 3 + 1, none⟩ = some (.slice y.d.a y.d.l y.d.c) ∧ V.cell? ⟨b', o' + k * 3 + 2, none⟩ = some (.bool xb)) ((refine HCELL.out _ ?_; first | exact ((Below.refl _ _)).drew | exact ((Below.refl _ _).alloc (Nat.le_refl _) _).drew | exact (((Below.refl _ _).alloc (Nat.le_refl _) _).alloc (by simp) _).drew)) (fail)
              all_goals
                go_wp2_with (go_at_call 19; fail)
                refine (HC.out _ (HBL.out _ _)).mono ?_
                rintro e w7 ⟨rfl, qn, hqn⟩
                have HW7 : Hid (Below wr.heap.size wr w7) := by rw [hqn]; exact below_drewN (HBL.out _ _) qn
                clear hqn
                cases zz with
                | true =>
                  have HK2 := Lib.hid (HK.out (HKEY.out.2 ⟨by trivial, by trivial, of_decide_eq_true HZ.out.symm⟩))
                  go_wp2
                  go_roundw
                  case rel => exact ⟨k + 1, by omega, by go_num, HK2.out, HB.out.trans (HW7.out.mono HB.out.size)⟩
                  case measure => simp [intOf]; omega
                | false =>
                  obtain rfl := HF.out fun e => of_decide_eq_false HZ.out.symm (HKEY.out.1 e).2.2
                  go_wp2
                  go_ret
                  exact ⟨rfl, HB0.out.trans ((HB.out.trans (HW7.out.mono HB.out.size)).mono HB0.out.size)⟩
            · obtain rfl := HF.out fun e => hbb (HKEY.out.1 e).2.1
              cases xb <;> cases yb
              · exact absurd rfl hbb
              · clear hbb
                have HCELL : Hid (∀ V, Below wr.heap.size wr V → V.cell? ⟨w.heap.size, 1, none⟩ = some (.slice (some ⟨b, o, none⟩) n c) ∧ V.cell? ⟨g1, 1, none⟩ = some (.slice (some ⟨b', o', none⟩) n c') ∧ V.cell? ⟨b, o + k * 3, none⟩ = some (.int .i64 xk) ∧ V.cell? ⟨b, o + k * 3 + 1, none⟩ = some (.slice x.d.a x.d.l x.d.c) ∧ V.cell? ⟨b, o + k * 3 + 2, none⟩ = some (.bool false) ∧ V.cell? ⟨b', o' + k * 3, none⟩ = some (.int .i64 xk) ∧ V.cell? ⟨b', o' + k * 3 + 1, none⟩ = some (.slice y.d.a y.d.l y.d.c) ∧ V.cell? ⟨b', o' + k * 3 + 2, none⟩ = some (.bool true)) := fun V hV =>
                  ⟨by rw [hV.cell (cell_lt x1)]; exact x1, by rw [hV.cell (cell_lt y1)]; exact y1, by rw [hV.cell (cell_lt c0)]; exact c0, by rw [hV.cell (cell_lt c1)]; exact c1, by rw [hV.cell (cell_lt c2)]; exact c2, by rw [hV.cell (cell_lt c0')]; exact c0', by rw [hV.cell (cell_lt c1')]; exact c1', by rw [hV.cell (cell_lt c2')]; exact c2'⟩
                go_wp2
                go_region_held3 (fun V => V.cell? ⟨w.heap.size, 1, none⟩ = some (.slice (some ⟨b, o, none⟩) n c) ∧ V.cell? ⟨g1, 1, none⟩ = some (.slice (some ⟨b', o', none⟩) n c') ∧ V.cell? ⟨b, o + k * 3, none⟩ = some (.int .i64 xk) ∧ V.cell? ⟨b, o + k * 3 + 1, none⟩ = some (.slice x.d.a x.d.l x.d.c) ∧ V.cell? ⟨b, o + k * 3 + 2, none⟩ = some (.bool false) ∧ V.cell? ⟨b', o' + k * 3, none⟩ = some (.int .i64 xk) ∧ V.cell? ⟨b', o' + k * 3 + 1, none⟩ = some (.slice y.d.a y.d.l y.d.c) ∧ V.cell? ⟨b', o' + k * 3 + 2, none⟩ = some (.bool true)) ((refine HCELL.out _ ?_; first | exact ((Below.refl _ _)).drew | exact ((Below.refl _ _).alloc (Nat.le_refl _) _).drew | exact (((Below.refl _ _).alloc (Nat.le_refl _) _).alloc (by simp) _).drew)) (fail)
                all_goals
                  go_wp2
                  go_ret
                  exact ⟨rfl, HB0.out.trans ((HB.out.trans ((HBL.out _ _).mono HB.out.size)).mono HB0.out.size)⟩
              · clear hbb
                have HCELL : Hid (∀ V, Below wr.heap.size wr V → V.cell? ⟨w.heap.size, 1, none⟩ = some (.slice (some ⟨b, o, none⟩) n c) ∧ V.cell? ⟨g1, 1, none⟩ = some (.slice (some ⟨b', o', none⟩) n c') ∧ V.cell? ⟨b, o + k * 3, none⟩ = some (.int .i64 xk) ∧ V.cell? ⟨b, o + k * 3 + 1, none⟩ = some (.slice x.d.a x.d.l x.d.c) ∧ V.cell? ⟨b, o + k * 3 + 2, none⟩ = some (.bool true) ∧ V.cell? ⟨b', o' + k * 3, none⟩ = some (.int .i64 xk) ∧ V.cell? ⟨b', o' + k * 3 + 1, none⟩ = some (.slice y.d.a y.d.l y.d.c) ∧ V.cell? ⟨b', o' + k * 3 + 2, none⟩ = some (.bool false)) := fun V hV =>
                  ⟨by rw [hV.cell (cell_lt x1)]; exact x1, by rw [hV.cell (cell_lt y1)]; exact y1, by rw [hV.cell (cell_lt c0)]; exact c0, by rw [hV.cell (cell_lt c1)]; exact c1, by rw [hV.cell (cell_lt c2)]; exact c2, by rw [hV.cell (cell_lt c0')]; exact c0', by rw [hV.cell (cell_lt c1')]; exact c1', by rw [hV.cell (cell_lt c2')]; exact c2'⟩
                go_wp2
                go_region_held3 (fun V => V.cell? ⟨w.heap.size, 1, none⟩ = some (.slice (some ⟨b, o, none⟩) n c) ∧ V.cell? ⟨g1, 1, none⟩ = some (.slice (some ⟨b', o', none⟩) n c') ∧ V.cell? ⟨b, o + k * 3, none⟩ = some (.int .i64 xk) ∧ V.cell? ⟨b, o + k * 3 + 1, none⟩ = some (.slice x.d.a x.d.l x.d.c) ∧ V.cell? ⟨b, o + k * 3 + 2, none⟩ = some (.bool true) ∧ V.cell? ⟨b', o' + k * 3, none⟩ = some (.int .i64 xk) ∧ V.cell? ⟨b', o' + k * 3 + 1, none⟩ = some (.slice y.d.a y.d.l y.d.c) ∧ V.cell? ⟨b', o' + k * 3 + 2, none⟩ = some (.bool false)) ((refine HCELL.out _ ?_; first | exact ((Below.refl _ _)).drew | exact ((Below.refl _ _).alloc (Nat.le_refl _) _).drew | exact (((Below.refl _ _).alloc (Nat.le_refl _) _).alloc (by simp) _).drew)) (fail)
                all_goals
                  go_wp2
                  go_ret
                  exact ⟨rfl, HB0.out.trans ((HB.out.trans ((HBL.out _ _).mono HB.out.size)).mono HB0.out.size)⟩
              · exact absurd rfl hbb
          · obtain rfl := HF.out fun e => hkk (HKEY.out.1 e).1
            have q1 : (xk != yk) = true := by simp [hkk]
            have HCELL : Hid (∀ V, Below wr.heap.size wr V → V.cell? ⟨w.heap.size, 1, none⟩ = some (.slice (some ⟨b, o, none⟩) n c) ∧ V.cell? ⟨g1, 1, none⟩ = some (.slice (some ⟨b', o', none⟩) n c') ∧ V.cell? ⟨b, o + k * 3, none⟩ = some (.int .i64 xk) ∧ V.cell? ⟨b, o + k * 3 + 1, none⟩ = some (.slice x.d.a x.d.l x.d.c) ∧ V.cell? ⟨b, o + k * 3 + 2, none⟩ = some (.bool xb) ∧ V.cell? ⟨b', o' + k * 3, none⟩ = some (.int .i64 yk) ∧ V.cell? ⟨b', o' + k * 3 + 1, none⟩ = some (.slice y.d.a y.d.l y.d.c) ∧ V.cell? ⟨b', o' + k * 3 + 2, none⟩ = some (.bool yb)) := fun V hV =>
              ⟨by rw [hV.cell (cell_lt x1)]; exact x1, by rw [hV.cell (cell_lt y1)]; exact y1, by rw [hV.cell (cell_lt c0)]; exact c0, by rw [hV.cell (cell_lt c1)]; exact c1, by rw [hV.cell (cell_lt c2)]; exact c2, by rw [hV.cell (cell_lt c0')]; exact c0', by rw [hV.cell (cell_lt c1')]; exact c1', by rw [hV.cell (cell_lt c2')]; exact c2'⟩
            clear hkk
            go_wp2
            go_region_held3 (fun V => V.cell? ⟨w.heap.size, 1, none⟩ = some (.slice (some ⟨b, o, none⟩) n c) ∧ V.cell? ⟨g1, 1, none⟩ = some (.slice (some ⟨b', o', none⟩) n c') ∧ V.cell? ⟨b, o + k * 3, none⟩ = some (.int .i64 xk) ∧ V.cell? ⟨b, o + k * 3 + 1, none⟩ = some (.slice x.d.a x.d.l x.d.c) ∧ V.cell? ⟨b, o + k * 3 + 2, none⟩ = some (.bool xb) ∧ V.cell? ⟨b', o' + k * 3, none⟩ = some (.int .i64 yk) ∧ V.cell? ⟨b', o' + k * 3 + 1, none⟩ = some (.slice y.d.a y.d.l y.d.c) ∧ V.cell? ⟨b', o' + k * 3 + 2, none⟩ = some (.bool yb)) ((refine HCELL.out _ ?_; first | exact ((Below.refl _ _)).drew | exact ((Below.refl _ _).alloc (Nat.le_refl _) _).drew | exact (((Below.refl _ _).alloc (Nat.le_refl _) _).alloc (by simp) _).drew)) (fail)
            all_goals
              go_wp2
              go_ret
              exact ⟨rfl, HB0.out.trans ((HB.out.trans ((HBL.out _ _).mono HB.out.size)).mono HB0.out.size)⟩
        · have e2 : decide ((k : Int) < (n : Int)) = false := decide_eq_false (by omega)
          obtain rfl : n = k := by omega
          have hrt : r = true := by
            rw [HR.out]
            refine decide_eq_true ?_
            rw [List.take_of_length_le (by rw [keys_len, HL.out]; exact Nat.le_refl _), List.take_of_length_le (by rw [keys_len, HL'.out]; exact Nat.le_refl _)] at hall
            exact hall
          subst hrt
          have HB := Lib.hid hB
          clear hall hB
          go_wp2
          go_ret
          exact ⟨rfl, HB0.out.trans (HB.out.mono HB0.out.size)⟩
    · have d2 : ((n : Int) != (n' : Int)) = true := by simp; omega
      have hr2 : r = false := by
        rw [hr]
        refine decide_eq_false fun h => hn ?_
        have := congrArg List.length h.2
        rw [keys_len, keys_len, HL.out, HL'.out] at this
        exact this
      subst hr2
      obtain ⟨x0, x1, _⟩ := cells2 hx0
      obtain ⟨y0, y1, _⟩ := cells2 hx1
      clear hr hx0 hx1 hp hn
      go_enter Try.func39, Try.ntmps39
      go_wp2
      go_ret
      exact ⟨rfl, by rw [← HW0.out]; exact HB0.out⟩
  · have d1 : (p != p') = true := by simp [hp]
    obtain rfl : r = false := by rw [hr]; exact decide_eq_false fun h => hp h.1
    clear hr hx0 hx1 hp
    go_enter Try.func39, Try.ntmps39
    go_wp2
    go_ret
    exact ⟨rfl, by rw [← HW0.out]; exact HB0.out⟩

end Go.Proofs.Ytmcbmemgeegodaa
