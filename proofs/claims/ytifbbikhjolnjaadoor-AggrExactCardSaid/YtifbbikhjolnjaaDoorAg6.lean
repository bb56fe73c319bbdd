/-
  Aggregates: rows of bytes joined, rows of numbers compared.
-/
import Derived.Test.YtifbbikhjolnjaaDoorAg5
namespace Go.Proofs.YtifbbikhjolnjaaDoor
open Go.RowKit
set_option linter.unusedVariables false

theorem flat_lim (ps : List Part) (m : Nat) (h : ∀ r, (h : r < ps.length) → (ps[r].z).length ≤ m) : ∀ k, k ≤ ps.length → (flat (ps.take k)).length ≤ k * m
  | 0, _ => by simp [flat]
  | k + 1, hk => by
    have h1 := flat_lim ps m h k (by omega)
    have h2 := h k (by omega)
    rw [flat_take ps k (by omega), List.length_append, Nat.add_mul, Nat.one_mul]; omega

theorem flat_big (b n cap : Nat) (ps : List Part) (w : World) (hl : ps.length = n) (hm : n ≤ 100000) (hc : ∀ r, (h : r < ps.length) → w.cell? ⟨b, r, none⟩ = some (.slice ps[r].a ps[r].l ps[r].c) ∧ ps[r].ok w) (h3 : ∀ r, (h : r < ps.length) → ps[r].l ≤ 300) :
    Calls Tryd.prog 18 #[.slice (some ⟨b, 0, none⟩) n cap] w (R1 w (flat ps).length (flat ps)) := by
  have HFL := Lib.hid (flat_lim ps 300 (fun r hr => by rw [(hc r hr).2.len]; exact h3 r hr))
  have HL := Lib.hid hl; have HC := Lib.hid hc; have H3 := Lib.hid h3
  clear hl hc h3
  go_enter Tryd.func18, Tryd.ntmps18
  go_wp2
  go_loopw [3, 4] (fun v i wr => ∃ (k f : Nat) (ko : Option Addr) (kc : Nat) (F : List Int), k ≤ n ∧ i = .int .i64 k ∧ F = flat (ps.take k) ∧ f = F.length ∧ v = .slice ko f kc ∧ Ow wr w.heap.size ko f kc F ∧ Below w.heap.size w wr) (fun _ i _ => n - (intOf i).toNat)
  case atStart => exact ⟨0, 0, none, 0, [], Nat.zero_le _, rfl, rfl, rfl, rfl, ⟨rfl, Nat.le_refl _, Nat.zero_le _, World.ownsRow_nil _ _ _ _⟩, Below.refl _ _⟩
  case round =>
    obtain ⟨k, f, ko, kc, F, hk, rfl, hF, hf, rfl, hown, hB⟩ := hrel
    have HB := Lib.hid hB
    by_cases hlt : k < n
    · obtain ⟨hcell, hok⟩ := HC.out k (by rw [HL.out]; exact hlt)
      have HF := Lib.hid (flat_take ps k (by rw [HL.out]; exact hlt))
      have hfl := HFL.out k (by rw [HL.out]; omega)
      have hpl3 := H3.out k (by rw [HL.out]; exact hlt)
      generalize ps[k]'(by rw [HL.out]; exact hlt) = p at hcell hok HF hpl3
      obtain ⟨pa, pl, pc, pz⟩ := p
      have hok' := hok.below hB
      have hcell' : wr.cell? ⟨b, k, none⟩ = some (.slice pa pl pc) := by rw [hB.cell (cell_lt hcell)]; exact hcell
      simp only at hpl3
      rw [← hF] at HF hfl
      rw [← hf] at hfl
      have HFF := Lib.hid hf
      have HOK := Lib.hid hok'; have HOWN := Lib.hid hown
      clear hok hok' hcell hB hown hF hf
      have HPL : Hid (pz.length = pl) := HOK.out.len
      go_wp2_with (at_builtin; refine append_bytes rfl (.tmp 11) (.tmp 15) rfl w.heap.size f kc pl pc ko pa F pz rfl HOWN.out rfl HOK.out.rd HPL.out HOK.out.nil (by omega) HB.out.size ?_; intro ko' kc' w1 ho1 hB1; have HO1 := Lib.hid ho1; have HB1 := Lib.hid (HB.out.trans hB1); clear ho1 hB1)
      go_roundw
      case rel => exact ⟨k + 1, f + pl, ko', kc', F ++ pz, by omega, by go_num, by rw [HF.out], by rw [List.length_append, ← HFF.out, HPL.out], rfl, HO1.out, HB1.out⟩
      case measure => simp [intOf]; omega
    · obtain rfl : k = n := by omega
      rw [List.take_of_length_le (by rw [HL.out]; exact Nat.le_refl _)] at hF
      subst hF; subst hf
      have HOW := Lib.hid hown
      clear hown hB
      go_wp2
      go_ret
      exact ⟨ko, kc, rfl, HOW.out, HB.out⟩

theorem flat_of_chu (s N : Nat) (zs : List Int) (hs : 0 < s) (hN : zs.length = N) : ∀ m, (chu s zs m).flatten = zs.take (m * s) := by
  intro m
  induction m with
  | zero => simp [chu]
  | succ m ih =>
    rw [chu_succ, List.flatten_append, ih, Nat.succ_mul]
    simp only [List.flatten_cons, List.flatten_nil, List.append_nil]
    rw [List.take_add]
theorem flat_eq (ps : List Part) : flat ps = (ps.map (·.z)).flatten := by simp [flat, List.flatMap_def]
theorem nb_full (N s : Nat) (hs : 0 < s) : N ≤ nb N s * s := by
  unfold nb
  have := Nat.div_add_mod (N + s - 1) s
  have := Nat.mod_lt (N + s - 1) hs
  rw [Nat.mul_comm]; omega
/-- The blocks, one behind the other, are the aggregate. -/
theorem flat_ag {ps : List Part} {s : Nat} {zs : List Int} (hs : 0 < s) (h : ps.map Part.z = chu s zs (nb zs.length s)) : flat ps = zs := by
  rw [flat_eq, show ps.map (·.z) = ps.map Part.z from rfl, h, flat_of_chu s zs.length zs hs rfl]
  exact List.take_of_length_le (nb_full _ _ hs)
theorem nb_pos (N s : Nat) (hs : 0 < s) (hN : 1 ≤ N) : 1 ≤ nb N s := by
  unfold nb
  exact (Nat.one_le_div_iff hs).2 (by omega)
theorem nb_small (N s : Nat) (h : 32 ≤ s) (hN : N ≤ 600000) : nb N s ≤ 20000 := by
  unfold nb
  refine Nat.le_of_lt_succ ((Nat.div_lt_iff_lt_mul (by omega)).2 ?_)
  have : 20001 * 32 ≤ 20001 * s := Nat.mul_le_mul (Nat.le_refl _) h
  omega
theorem nb_anti (N a b : Nat) (ha : 0 < a) (h : a ≤ b) : nb N b ≤ nb N a := by
  unfold nb
  by_cases h0 : N = 0
  · subst h0
    rw [Nat.div_eq_of_lt (by omega)]; exact Nat.zero_le _
  · rw [Nat.div_le_iff_le_mul_add_pred (by omega)]
    have h1 := nb_full N a ha
    unfold nb at h1
    have h2 : (N + a - 1) / a * a ≤ (N + a - 1) / a * b := Nat.mul_le_mul (Nat.le_refl _) h
    rw [Nat.mul_comm b]; omega

/-- THE COMPARISON OF NUMBERS: it only reads. -/
theorem ints_cmp (a b : Option Addr) (n m ca cb : Nat) (xs ys : List Int) (w : World) (base base2 : Nat) (hm : n ≤ 1000000) (h1 : On w base a n ca xs) (h2 : On w base2 b m cb ys) :
    Calls Tryd.prog 14 #[.slice a n ca, .slice b m cb] w fun e w' => e = .returned (.bool (decide (xs = ys))) ∧ ∃ q, w' = w.drewN q := by
  have hx : xs.length = n := h1.1
  have hy : ys.length = m := h2.1
  by_cases hnm : n = m
  · subst hnm
    obtain ⟨r, hr⟩ : ∃ r, r = decide (xs = ys) := ⟨_, rfl⟩
    rw [← hr]
    have HR := Lib.hid hr; have H1 := Lib.hid h1; have H2 := Lib.hid h2; have HX := Lib.hid hx; have HY := Lib.hid hy
    have d0 : ((n : Int) != n) = false := by simp
    clear hr h1 h2 hx hy
    go_enter Tryd.func14, Tryd.ntmps14
    go_wp2
    go_loopw [5] (fun i wr => ∃ k q : Nat, k ≤ n ∧ i = .int .i64 k ∧ wr = w.drewN q ∧ xs.take k = ys.take k) (fun i _ => n - (intOf i).toNat)
    case atStart => exact ⟨0, 0, Nat.zero_le _, rfl, rfl, rfl⟩
    case round =>
      obtain ⟨k, q, hk, rfl, hw, ht⟩ := hrel
      have HW := Lib.hid hw; have HT := Lib.hid ht
      by_cases hlt : k < n
      · obtain ⟨b1, rfl, _, c1⟩ := H1.out.at hlt
        obtain ⟨b2, rfl, _, c2⟩ := H2.out.at hlt
        have g1 : wr.cell? ⟨b1, k, none⟩ = some (.int .i64 (xs.getD k 0)) := by rw [hw]; exact c1
        have g2 : wr.cell? ⟨b2, k, none⟩ = some (.int .i64 (ys.getD k 0)) := by rw [hw]; exact c2
        obtain ⟨c, hc⟩ : ∃ c, c = xs.getD k 0 := ⟨_, rfl⟩
        obtain ⟨d, hd⟩ : ∃ d, d = ys.getD k 0 := ⟨_, rfl⟩
        rw [← hc] at g1; rw [← hd] at g2
        have HC := Lib.hid hc; have HD := Lib.hid hd
        clear c1 c2 hc hd hw ht
        have lx : k < xs.length := by rw [HX.out]; exact hlt
        have ly : k < ys.length := by rw [HY.out]; exact hlt
        by_cases hcd : c = d
        · subst hcd
          have d1 : (c != c) = false := by simp
          have HS : Hid (xs.take (k + 1) = ys.take (k + 1)) := by
            show _ = _
            rw [List.take_succ_eq_append_getElem lx, List.take_succ_eq_append_getElem ly, HT.out]
            have e1 := HC.out; have e2 := HD.out
            simp only [List.getD, List.getElem?_eq_getElem lx, List.getElem?_eq_getElem ly, Option.getD_some] at e1 e2
            rw [← e1, ← e2]
          go_wp2
          go_quiet (fail)
          go_wp2
          go_roundw
          case rel => exact ⟨k + 1, q + nq, by omega, by go_num, by rw [HW.out, World.drewN_drewN], HS.out⟩
          case measure => simp [intOf]; omega
        · have d1 : (c != d) = true := by simp [hcd]
          have hne : r = false := by
            rw [HR.out]
            refine decide_eq_false (fun e => hcd ?_)
            rw [HC.out, HD.out, e]
          subst hne
          clear hcd lx ly
          go_wp2
          go_quiet (fail)
          go_wp2
          go_ret
          exact ⟨rfl, q + nq, by rw [HW.out, World.drewN_drewN]⟩
      · obtain rfl : k = n := by omega
        have ht' : r = true := by
          rw [HR.out]
          rw [List.take_of_length_le (by rw [HX.out]; exact Nat.le_refl _), List.take_of_length_le (by rw [HY.out]; exact Nat.le_refl _)] at ht
          exact decide_eq_true ht
        subst ht'
        clear hw ht
        go_wp2
        go_ret
        exact ⟨rfl, q, HW.out⟩
  · have hne : decide (xs = ys) = false := ne_of_len (by omega)
    rw [hne]
    have d0 : ((n : Int) != m) = true := by simp; omega
    clear hne hx hy h1 h2
    go_enter Tryd.func14, Tryd.ntmps14
    go_wp2
    go_ret
    exact ⟨rfl, 0, rfl⟩

end Go.Proofs.YtifbbikhjolnjaaDoor
