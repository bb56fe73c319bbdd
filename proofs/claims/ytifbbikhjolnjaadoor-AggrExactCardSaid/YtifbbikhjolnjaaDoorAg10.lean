/-
  AggrCut: what is needed.
-/
import Derived.Test.YtifbbikhjolnjaaDoorAg9
namespace Go.Proofs.YtifbbikhjolnjaaDoor
open Go.RowKit
set_option linter.unusedVariables false

/-- The numbers zs can be read. -/
def Nr (w : World) (a : Option Addr) (zs : List Int) : Prop := ∀ j, j < zs.length → ∃ g, a = some ⟨g, 0, none⟩ ∧ w.cell? ⟨g, j, none⟩ = some (.int .i64 (zs.getD j 0))
theorem On.nr {w : World} {base n c : Nat} {ko : Option Addr} {zs : List Int} (h : On w base ko n c zs) : Nr w ko zs := fun j hj => by
  obtain ⟨g, hg, _, hc⟩ := h.at (j := j) (by rw [← h.1]; exact hj)
  exact ⟨g, hg, hc⟩
theorem Nr.take {w : World} {a : Option Addr} {zs : List Int} (h : Nr w a zs) (k : Nat) : Nr w a (zs.take k) := fun j hj => by
  rw [List.length_take] at hj
  obtain ⟨g, hg, hc⟩ := h j (by omega)
  refine ⟨g, hg, ?_⟩
  rw [hc]
  simp only [List.getD, List.getElem?_take, if_pos (show j < k by omega)]
theorem offP_take (rs : List Rec) (n j : Nat) (h : j ≤ n) : (offP rs n).take j = offP rs j := by
  unfold offP
  rw [← List.map_take, List.take_range, Nat.min_eq_left h]
theorem offP_get (rs : List Rec) (n i : Nat) (h : i < n) : (offP rs n).getD i 0 = ((13 + (frs (rs.take i)).length : Nat) : Int) := by
  unfold offP
  simp [List.getD, h]

/-- THE COMPARISON OF NUMBERS: it only reads. -/
theorem ints_cmp2 (a b : Option Addr) (n m ca cb : Nat) (xs ys : List Int) (w : World) (hm : n ≤ 1000000) (hx : xs.length = n) (hy : ys.length = m) (h1 : Nr w a xs) (h2 : Nr w b ys) :
    Calls Tryd.prog 14 #[.slice a n ca, .slice b m cb] w fun e w' => e = .returned (.bool (decide (xs = ys))) ∧ ∃ q, w' = w.drewN q := by
  by_cases hnm : n = m
  · subst hnm
    obtain ⟨r, hr⟩ : ∃ r, r = decide (xs = ys) := ⟨_, rfl⟩
    rw [← hr]
    have HR := Lib.hid hr; have H1 := Lib.hid h1; have H2 := Lib.hid h2; have HX := Lib.hid hx; have HY := Lib.hid hy
    have d0 : ((n : Int) != n) = false := by simp
    clear hr h1 h2 hx hy
    go_enter Tryd.func14, Tryd.ntmps14
    go_wp2
    go_loopw [5] (fun i wr => ∃ k q : Nat, k ≤ n ∧ i = .int .i64 k ∧ wr = w.drewN q ∧ xs.take k = ys.take k) (fun i _ => n - (intOf i).toNat)
    case atStart => exact ⟨0, 0, Nat.zero_le _, rfl, rfl, rfl⟩
    case round =>
      obtain ⟨k, q, hk, rfl, hw, ht⟩ := hrel
      have HW := Lib.hid hw; have HT := Lib.hid ht
      by_cases hlt : k < n
      · obtain ⟨b1, rfl, c1⟩ := H1.out k (by rw [HX.out]; exact hlt)
        obtain ⟨b2, rfl, c2⟩ := H2.out k (by rw [HY.out]; exact hlt)
        have g1 : wr.cell? ⟨b1, k, none⟩ = some (.int .i64 (xs.getD k 0)) := by rw [hw]; exact c1
        have g2 : wr.cell? ⟨b2, k, none⟩ = some (.int .i64 (ys.getD k 0)) := by rw [hw]; exact c2
        obtain ⟨c, hc⟩ : ∃ c, c = xs.getD k 0 := ⟨_, rfl⟩
        obtain ⟨d, hd⟩ : ∃ d, d = ys.getD k 0 := ⟨_, rfl⟩
        rw [← hc] at g1; rw [← hd] at g2
        have HC := Lib.hid hc; have HD := Lib.hid hd
        clear c1 c2 hc hd hw ht
        have lx : k < xs.length := by rw [HX.out]; exact hlt
        have ly : k < ys.length := by rw [HY.out]; exact hlt
        by_cases hcd : c = d
        · subst hcd
          have d1 : (c != c) = false := by simp
          have HS : Hid (xs.take (k + 1) = ys.take (k + 1)) := by
            show _ = _
            rw [List.take_succ_eq_append_getElem lx, List.take_succ_eq_append_getElem ly, HT.out]
            have e1 := HC.out; have e2 := HD.out
            simp only [List.getD, List.getElem?_eq_getElem lx, List.getElem?_eq_getElem ly, Option.getD_some] at e1 e2
            rw [← e1, ← e2]
          go_wp2
          go_quiet (fail)
          go_wp2
          go_roundw
          case rel => exact ⟨k + 1, q + nq, by omega, by go_num, by rw [HW.out, World.drewN_drewN], HS.out⟩
          case measure => simp [intOf]; omega
        · have d1 : (c != d) = true := by simp [hcd]
          have hne : r = false := by
            rw [HR.out]
            refine decide_eq_false (fun e => hcd ?_)
            rw [HC.out, HD.out, e]
          subst hne
          clear hcd lx ly
          go_wp2
          go_quiet (fail)
          go_wp2
          go_ret
          exact ⟨rfl, q + nq, by rw [HW.out, World.drewN_drewN]⟩
      · obtain rfl : k = n := by omega
        have ht' : r = true := by
          rw [HR.out]
          rw [List.take_of_length_le (by rw [HX.out]; exact Nat.le_refl _), List.take_of_length_le (by rw [HY.out]; exact Nat.le_refl _)] at ht
          exact decide_eq_true ht
        subst ht'
        clear hw ht
        go_wp2
        go_ret
        exact ⟨rfl, q, HW.out⟩
  · have hne : decide (xs = ys) = false := ne_of_len (by omega)
    rw [hne]
    have d0 : ((n : Int) != m) = true := by simp; omega
    clear hne hx hy h1 h2
    go_enter Tryd.func14, Tryd.ntmps14
    go_wp2
    go_ret
    exact ⟨rfl, 0, rfl⟩

theorem nb_low (N s : Nat) (hs : 0 < s) : nb N s * s < N + s := by
  unfold nb
  have := Nat.div_mul_le_self (N + s - 1) s
  omega
theorem chu_get (s : Nat) (zs : List Int) (m i : Nat) (h : i < m) : (chu s zs m)[i]? = some ((zs.drop (i * s)).take s) := by
  unfold chu; simp [h]
/-- How long the blocks are. -/
theorem block_len {w : World} {base : Nat} {ko : Option Addr} {s kc : Nat} {ps : List Part} {zs : List Int} (h : OPs w base ko (nb zs.length s) kc ps) (hz : ps.map Part.z = chu s zs (nb zs.length s)) (hs : 0 < s) :
    ∀ i, (hi : i < ps.length) → 1 ≤ ps[i].l ∧ ps[i].l ≤ s ∧ (i + 1 < nb zs.length s → ps[i].l = s) := by
  intro i hi
  have hi' : i < nb zs.length s := by rw [← h.len]; exact hi
  have e : (ps.map Part.z)[i]? = some ((zs.drop (i * s)).take s) := by rw [hz]; exact chu_get s zs _ i hi'
  rw [List.getElem?_map, List.getElem?_eq_getElem hi] at e
  simp only [Option.map_some, Option.some.injEq] at e
  have hl := (h.own _ (List.getElem_mem hi)).1.len
  rw [e, List.length_take, List.length_drop] at hl
  have hlow := nb_low zs.length s hs
  have h1 : i * s + s ≤ nb zs.length s * s := by rw [← Nat.succ_mul]; exact Nat.mul_le_mul_right s hi'
  refine ⟨by omega, by omega, fun h2 => ?_⟩
  have h3 : i * s + s + s ≤ nb zs.length s * s := by
    have := Nat.mul_le_mul_right s (show i + 2 ≤ nb zs.length s by omega)
    rw [Nat.add_mul] at this; omega
  omega

/-- A frame that is cut is no frame. -/
theorem rer_part (k s : Int) (z rest : List Int) (t : Nat) (h : nok k s) (hz : z.length ≤ 8000) (h2 : t < 13 + z.length) : rer ((fr k s z ++ rest).take t) ≠ 0 := by
  obtain ⟨ek, es, en, ez, e0⟩ := fr_fields2 k s z rest h hz
  have hl : ((fr k s z ++ rest).take t).length = t := by rw [List.length_take, List.length_append, fr_len]; omega
  have e3 : rer ((fr k s z ++ rest).take t) = 3 := by
    unfold rer
    by_cases h9 : t < 9
    · rw [if_pos (by omega)]
    · rw [if_neg (by omega), if_pos]
      refine .inr (.inr ?_)
      have : rn ((fr k s z ++ rest).take t) = z.length := by
        rw [← en]; unfold rn
        rw [List.drop_take, List.take_take, Nat.min_eq_left (by omega)]
      rw [hl, this]; exact h2
  rw [e3]; omega

/-- Nothing is read where the head is none. -/
theorem aread0 (ao : Option Addr) (len cap : Nat) (zs : List Int) (w : World) (hT : Tab w) (hl : zs.length = len) (hlc : len ≤ cap) (hm : len ≤ 10000000) (hcm : cap ≤ maxLen) (hr : Rd w ao zs) (hz : Bts zs)
    (rs : List Rec) (he : rer zs ≠ 0) : Calls Tryd.prog 17 #[.slice ao len cap] w (RDP w rs 0 false) := by
  have hra := fread_any ao len cap zs 0 w hT hl hlc (by omega) hcm hr hz
  have HRA := Lib.hid hra; have HE := Lib.hid he; have HL := Lib.hid hl
  clear hra he hT hr hz hl
  go_enter Tryd.func17, Tryd.ntmps17
  go_wp2_with (go_at_call 19; fail)
  refine HRA.out.mono ?_
  rintro e w3 (⟨h1, _⟩ | ⟨_, h0, h1⟩ | ⟨_, h0, h1⟩)
  · omega
  · exact absurd h0 HE.out
  · obtain ⟨er, her⟩ : ∃ er, er = rer (zs.drop (0 : Int).toNat) := ⟨_, rfl⟩
    rw [← her] at h0 h1
    obtain ⟨rfl, hB3⟩ := h1
    have d2 : (er != 0) = true := by simp [h0]
    have HB3 := Lib.hid hB3
    clear her hB3 h0
    go_wp2
    go_ret3
    exact ⟨none, 0, none, 0, [], rfl, (ORs.nil _ _), rfl, (On.nil _ _), HB3.out.alloc HB3.out.size _⟩

/-- How many frames stand whole ahead of K. -/
def cnt (rs : List Rec) (K n : Nat) : Nat := ((List.range n).filter fun i => decide (13 + (frs (rs.take (i + 1))).length ≤ K)).length
theorem cnt_succ (rs : List Rec) (K n : Nat) : cnt rs K (n + 1) = cnt rs K n + if 13 + (frs (rs.take (n + 1))).length ≤ K then 1 else 0 := by
  unfold cnt
  rw [List.range_succ, List.filter_append, List.length_append]
  by_cases h : 13 + (frs (rs.take (n + 1))).length ≤ K
  · simp [h]
  · simp [h]
theorem frs_step (rs : List Rec) (i : Nat) (h : i < rs.length) : (frs (rs.take (i + 1))).length = (frs (rs.take i)).length + 13 + rs[i].d.z.length := by
  rw [frs_take rs i h, List.length_append, fr_len]; omega
theorem cnt_all (rs : List Rec) (K : Nat) : ∀ n, n ≤ rs.length → cnt rs K n ≤ n ∧ (∀ i, i < cnt rs K n → 13 + (frs (rs.take (i + 1))).length ≤ K) ∧ (cnt rs K n < n → K < 13 + (frs (rs.take (cnt rs K n + 1))).length) := by
  intro n
  induction n with
  | zero => intro _; exact ⟨Nat.le_refl _, fun i hi => absurd hi (Nat.not_lt_zero _), fun h => absurd h (Nat.not_lt_zero _)⟩
  | succ n ih =>
    intro hn
    obtain ⟨h1, h2, h3⟩ := ih (by omega)
    rw [cnt_succ]
    by_cases hc : 13 + (frs (rs.take (n + 1))).length ≤ K
    · rw [if_pos hc]
      have he : cnt rs K n = n := by
        rcases Nat.lt_or_ge (cnt rs K n) n with h | h
        · have h4 := h3 h
          have h5 : (frs (rs.take (cnt rs K n + 1))).length ≤ (frs (rs.take (n + 1))).length := by
            have := frs_mono (rs.take (n + 1)) (cnt rs K n + 1) (by rw [List.length_take]; omega)
            rwa [List.take_take, Nat.min_eq_left (by omega)] at this
          omega
        · omega
      rw [he] at h2 ⊢
      refine ⟨Nat.le_refl _, fun i hi => ?_, fun h => by omega⟩
      rcases Nat.lt_or_ge i n with h | h
      · exact h2 i h
      · obtain rfl : i = n := by omega
        exact hc
    · rw [if_neg hc, Nat.add_zero]
      refine ⟨by omega, h2, fun h => ?_⟩
      rcases Nat.lt_or_ge (cnt rs K n) n with h4 | h4
      · exact h3 h4
      · have he : cnt rs K n = n := by omega
        rw [he]; omega

/-- READ OF A BEGINNING OF AN AGGREGATE. -/
theorem read_cut (ao : Option Addr) (K cap : Nat) (w : World) (hT : Tab w) (rs : List Rec) (n : Nat) (hn : rs.length = n) (hK : K < (ag rs).length) (hKl : K ≤ 10000000) (hKc : K ≤ cap) (hcm : cap ≤ maxLen) (hr : Rd w ao ((ag rs).take K)) (hz : Bts (ag rs))
    (h1 : 1 ≤ n) (h64 : n ≤ 64) (hok : ∀ i, (hi : i < rs.length) → nok rs[i].k rs[i].s ∧ rs[i].d.z.length ≤ 8000 ∧ rs[i].k ≠ 4 ∧ rs[i].k ≠ 5 ∧ Bts rs[i].d.z) :
    Calls Tryd.prog 17 #[.slice ao K cap] w (RDP w rs (cnt rs K n) false) := by
  subst hn
  have hl : ((ag rs).take K).length = K := by rw [List.length_take]; omega
  have hag := ag_len rs
  obtain ⟨c1, c2, c3⟩ := cnt_all rs K rs.length (Nat.le_refl _)
  by_cases h13 : K < 13
  · have hc0 : cnt rs K rs.length = 0 := by
      rcases Nat.eq_zero_or_pos (cnt rs K rs.length) with h | h
      · exact h
      · have := c2 0 h; omega
    rw [hc0]
    refine aread0 ao K cap _ w hT hl hKc hKl hcm hr (hz.take K) rs ?_
    unfold ag
    exact rer_part 4 rs.length [] _ K ⟨by omega, by omega, by omega, by omega⟩ (Nat.zero_le _) (by simpa using h13)
  · have hE : 13 + (frs (rs.take (cnt rs K rs.length))).length ≤ K := by
      rcases Nat.eq_zero_or_pos (cnt rs K rs.length) with h | h
      · rw [h]; simp [frs]; omega
      · have := c2 (cnt rs K rs.length - 1) (by omega)
        rwa [Nat.sub_add_cancel h] at this
    have e0 : (ag rs).take K = fr 4 rs.length [] ++ (frs rs ++ fr 5 rs.length []).take (K - 13) := by
      unfold ag
      rw [List.take_append, List.take_of_length_le (by rw [fr_len]; simp; omega), fr_len]
      rfl
    have hsplit : ∀ i, (hi : i < rs.length) → ag rs = (fr 4 rs.length [] ++ frs (rs.take i)) ++ (fr rs[i].k rs[i].s rs[i].d.z ++ (frs (rs.drop (i + 1)) ++ fr 5 rs.length [])) := fun i hi => by
      unfold ag
      rw [frs_split rs i hi]
      simp only [List.append_assoc]
    have hpl : ∀ i, (fr 4 (rs.length : Int) [] ++ frs (rs.take i)).length = 13 + (frs (rs.take i)).length := fun i => by
      rw [List.length_append, fr_len]; rfl
    refine aread ao K cap _ w hT hl hKc hKl hcm hr (hz.take K) rs (cnt rs K rs.length) rs.length rfl c1 h64 hok _ e0 (fun i hi => ?_) false (.inl ⟨rfl, ?_, hE⟩)
    · have hi' : i < rs.length := by omega
      have h2 := c2 i hi
      rw [frs_step rs i hi'] at h2
      refine ⟨(frs (rs.drop (i + 1)) ++ fr 5 rs.length []).take (K - (13 + (frs (rs.take i)).length) - (13 + rs[i].d.z.length)), ?_⟩
      have q1 : (fr 4 (rs.length : Int) [] ++ frs (rs.take i)).length ≤ K := by rw [hpl]; omega
      have q2 : (fr rs[i].k rs[i].s rs[i].d.z).length ≤ K - (13 + (frs (rs.take i)).length) := by rw [fr_len]; omega
      rw [hsplit i hi', List.take_append, List.take_of_length_le q1, hpl, List.take_append, List.take_of_length_le q2, fr_len]
    · rw [List.drop_take]
      rcases Nat.lt_or_ge (cnt rs K rs.length) rs.length with h | h
      · have h3 := c3 h
        rw [frs_step rs _ h] at h3
        have hd : (ag rs).drop (13 + (frs (rs.take (cnt rs K rs.length))).length) = fr rs[cnt rs K rs.length].k rs[cnt rs K rs.length].s rs[cnt rs K rs.length].d.z ++ (frs (rs.drop (cnt rs K rs.length + 1)) ++ fr 5 rs.length []) := by
          rw [hsplit _ h, ← hpl (cnt rs K rs.length), List.drop_left]
        rw [hd]
        exact rer_part _ _ _ _ _ (hok _ h).1 (hok _ h).2.1 (by omega)
      · have he : cnt rs K rs.length = rs.length := by omega
        rw [he, List.take_length]
        have hd : (ag rs).drop (13 + (frs rs).length) = fr 5 rs.length [] ++ [] := by
          unfold ag
          rw [← List.append_assoc, List.append_nil]
          have : 13 + (frs rs).length = (fr 4 (rs.length : Int) [] ++ frs rs).length := by rw [List.length_append, fr_len]; rfl
          rw [this, List.drop_left]
        rw [hd]
        exact rer_part 5 rs.length [] [] _ ⟨by omega, by omega, by omega, by omega⟩ (Nat.zero_le _) (by simp; omega)

end Go.Proofs.YtifbbikhjolnjaaDoor
