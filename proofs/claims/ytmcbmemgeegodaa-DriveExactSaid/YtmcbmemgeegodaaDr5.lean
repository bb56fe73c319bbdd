/-
  The drive: Mark, End.
-/
import Derived.Test.YtmcbmemgeegodaaDr4
namespace Go.Proofs.Ytmcbmemgeegodaa
open Go.RowKit
set_option linter.unusedVariables false

theorem goodK_take {p : Int} {ks : List Key} (h : goodK p ks = true) (q : Nat) : goodK p (ks.take q) = true := by
  unfold goodK at h ⊢
  simp only [Bool.and_eq_true, decide_eq_true_eq, List.all_eq_true] at h ⊢
  obtain ⟨⟨⟨h1, h2⟩, h3⟩, h4⟩ := h
  refine ⟨⟨⟨h1, h2⟩, ?_⟩, fun x hx => h4 x (List.mem_of_mem_take hx)⟩
  rw [List.length_take]; omega
theorem goodK_snoc {p : Int} {ks : List Key} (h : goodK p ks = true) (q : Nat) (hq : (q : Int) < p) (x : Key) (hx : okc x.1 x.2.1.length = true) : goodK p (ks.take q ++ [x]) = true := by
  unfold goodK at h ⊢
  simp only [Bool.and_eq_true, decide_eq_true_eq, List.all_eq_true] at h ⊢
  obtain ⟨⟨⟨h1, h2⟩, h3⟩, h4⟩ := h
  refine ⟨⟨⟨h1, h2⟩, ?_⟩, fun y hy => ?_⟩
  · rw [List.length_append, List.length_take, List.length_singleton]; omega
  · rcases List.mem_append.1 hy with hy | hy
    · exact h4 y (List.mem_of_mem_take hy)
    · obtain rfl := List.mem_singleton.1 hy
      exact hx
/-- Is a new tape laid in? -/
def PP.lays (P : PP) : Bool := P.spent || decide (0 ≤ P.spend.torn)

set_option maxHeartbeats 4000000 in
theorem dbecome {w0 w : World} {base Bp g gp : Nat} {ko : Option Addr} {n kc : Nat} {cs : List Cel} {T : TD} {P : PP} (h : Dy w0 w base Bp g gp ko n kc cs T P) (ko' : Option Addr) (n' kc' : Nat) (cs' : List Cel) (p' : Int) (ks' : List Key) (ho : OCs w base ko' n' kc' cs') (hk' : keys cs' = ks') (hg' : goodK p' ks' = true) (ha : T.at_ ≤ n') :
    Calls Try.prog 51 #[.pointer (some ⟨g, 0, none⟩), .agg #[.int .i64 p', .slice ko' n' kc']] w fun e w' => e = .returned (.int .i64 (if P.spent then 0 else 5)) ∧ Dsy w0 w' base Bp g gp (if P.lays then ⟨p', ks', T.at_⟩ else T) P.spend := by
  have hal : Below w.heap.size w (w.alloc (.cells #[.int .i64 p', .slice ko' n' kc'] 82)) := (Below.refl _ _).alloc (Nat.le_refl _) _
  have hd0 := h.below hal
  have ho0 := ho.below hal
  have hx0 := new_cell (w := w) (.int .i64 p') (.slice ko' n' kc') 82
  obtain ⟨c0, c1, c2, c3, f⟩ := hd0.d.c
  have hsp := pspend (w.alloc (.cells #[.int .i64 p', .slice ko' n' kc'] 82)) Bp gp P hd0.pw (.inr hd0.pw.due)
  have HL : Hid (P.lays = (P.spent || decide (0 ≤ P.spend.torn))) := rfl
  obtain ⟨ly, hly⟩ : ∃ ly, ly = P.lays := ⟨_, rfl⟩
  rw [← hly] at HL ⊢
  obtain ⟨sp, hspp⟩ : ∃ sp, sp = P.spent := ⟨_, rfl⟩
  rw [← hspp] at hsp HL ⊢
  have HSP := Lib.hid hsp; have HD0 := Lib.hid hd0; have HO0 := Lib.hid ho0; have HX0 := Lib.hid hx0; have HK := Lib.hid hk'; have HG := Lib.hid hg'; have HA := Lib.hid ha
  obtain ⟨er, her⟩ : ∃ er : Int, er = if sp then 0 else 5 := ⟨_, rfl⟩
  rw [← her]
  have HER := Lib.hid her
  clear h ho hk' hg' ha hal hd0 ho0 hx0 hsp hly hspp her
  go_enter Try.func51, Try.ntmps51
  go_wp2_with (go_at_call 63; fail)
  refine HSP.out.mono ?_
  rintro e w1 ⟨rfl, hp1, hB1, ho1⟩
  have hd1 := HD0.out.spend hp1 hB1 ho1
  obtain ⟨cp, hcp⟩ := HD0.out.pw.blk
  have hk : KT (fun t => t == 78) none _ w1 := KT.pon hcp rfl hB1.size ho1
  have hO1 := HO0.out.kt hk rfl rfl
  have hx1 := hk.keep _ _ _ _ (fun e => by cases e) rfl HX0.out
  obtain ⟨y0, y1, _⟩ := cells2 hx1
  have htn := ptorn w1 Bp gp P.spend hd1.pw
  have hst := hd1.setTape hO1 HK.out HG.out HA.out
  have HD1 := Lib.hid hd1; have HTN := Lib.hid htn; have HST := Lib.hid hst
  clear c0 c1 c2 c3 f hp1 hB1 ho1 hcp hk hO1 hx1 htn hst HSP
  obtain ⟨c0, c1, c2, c3, f⟩ := hd1.d.c
  clear hd1
  cases sp with
  | true =>
    obtain rfl : er = 0 := by rw [HER.out]; rfl
    have hl : ly = true := by rw [HL.out]; rfl
    subst hl
    go_wp2
    go_ret
    exact ⟨rfl, _, _, _, _, HST.out⟩
  | false =>
    obtain rfl : er = 5 := by rw [HER.out]; rfl
    have hl : ly = decide (0 ≤ P.spend.torn) := by rw [HL.out]; rfl
    have HLL := Lib.hid hl
    clear hl
    go_wp2_with (go_at_call 65; fail)
    refine HTN.out.mono ?_
    rintro e w2 ⟨rfl, rfl⟩
    cases ly with
    | true =>
      have d1 : decide (0 ≤ P.spend.torn) = true := HLL.out.symm
      go_wp2
      go_ret
      exact ⟨rfl, _, _, _, _, HST.out⟩
    | false =>
      have d1 : decide (0 ≤ P.spend.torn) = false := HLL.out.symm
      go_wp2
      go_ret
      exact ⟨rfl, _, _, _, _, HD1.out⟩

/-- What mark tells, and leaves. -/
def TD.mark (T : TD) (P : PP) : Int × TD × PP :=
  if P.off then (5, T, P) else if (markK T.p T.ks T.at_).1 ≠ 0 then ((markK T.p T.ks T.at_).1, T, P) else
  if P.spent then (0, ⟨T.p, (markK T.p T.ks T.at_).2.2, T.at_ + 1⟩, P.spend) else if P.lays then (5, ⟨T.p, (markK T.p T.ks T.at_).2.2, T.at_⟩, P.spend) else (5, T, P.spend)
set_option maxHeartbeats 8000000 in
theorem dmark {w0 w : World} {base Bp g gp : Nat} {T : TD} {P : PP} (h : Dsy w0 w base Bp g gp T P) : Calls Try.prog 21 #[.pointer (some ⟨g, 0, none⟩)] w fun e w' => e = .returned (.int .i64 (T.mark P).1) ∧ Dsy w0 w' base Bp g gp (T.mark P).2.1 (T.mark P).2.2 := by
  have hof := doff h
  have HH := Lib.hid h
  obtain ⟨ko, n, kc, cs, h⟩ := h
  have hks : Tap.ks ⟨T.p, ko, n, kc, cs⟩ = T.ks := h.ks
  have hrl := fun V (hV : Below w.heap.size w V) => rl_mark ⟨T.p, ko, n, kc, cs⟩ T.at_ V (h.tap.below hV) (by rw [hks]; exact h.good)
  rw [hks] at hrl
  simp only at hrl
  have hlen := h.len
  have hgk := good_keysK h.good
  have hat := h.at_
  have hnew : (markK T.p T.ks T.at_).1 = 0 → goodK T.p (markK T.p T.ks T.at_).2.2 = true ∧ T.at_ + 1 ≤ (markK T.p T.ks T.at_).2.2.length ∧ (markK T.p T.ks T.at_).2.1 = T.p := by
    unfold markK
    rw [if_pos ⟨by omega, by omega⟩]
    by_cases hp : (T.at_ : Int) = T.p
    · rw [if_pos hp]; intro h; cases h
    · rw [if_neg hp]
      intro _
      rw [Int.toNat_natCast]
      refine ⟨goodK_snoc h.good T.at_ (by omega) (2, [], false) (by decide), ?_, rfl⟩
      simp; omega
  have hE : T.mark P = if P.off then (5, T, P) else if (markK T.p T.ks T.at_).1 ≠ 0 then ((markK T.p T.ks T.at_).1, T, P) else
    if P.spent then (0, ⟨T.p, (markK T.p T.ks T.at_).2.2, T.at_ + 1⟩, P.spend) else if P.lays then (5, ⟨T.p, (markK T.p T.ks T.at_).2.2, T.at_⟩, P.spend) else (5, T, P.spend) := rfl
  obtain ⟨L, hL⟩ : ∃ L, L = T.mark P := ⟨_, rfl⟩
  rw [← hL] at hE ⊢
  obtain ⟨r, hr⟩ : ∃ r, r = (markK T.p T.ks T.at_) := ⟨_, rfl⟩
  rw [← hr] at hE hrl hnew
  obtain ⟨er, p', ks'⟩ := r
  simp only at hE hnew
  obtain ⟨off, hoff⟩ : ∃ off, off = P.off := ⟨_, rfl⟩
  rw [← hoff] at hof hE
  have HOF := Lib.hid hof; have HE := Lib.hid hE; have HRL := Lib.hid hrl; have HNEW := Lib.hid hnew; have HS := Lib.hid h; have HLN := Lib.hid hlen; have HGK := Lib.hid hgk
  have HC : Hid (∀ V, Below w.heap.size w V → V.cell? ⟨g, 0, none⟩ = some (.int .i64 T.p) ∧ V.cell? ⟨g, 1, none⟩ = some (.slice ko n kc) ∧ V.cell? ⟨g, 3, none⟩ = some (.int .i64 T.at_)) := fun V hV => by
    obtain ⟨a, b, c, d, e⟩ := (h.below hV).d.c
    exact ⟨a, b, d⟩
  have b1 : (T.at_ : Int) + 1 ≤ 1000 := by omega
  clear h hof hE hrl hnew hlen hgk hks hL hr hoff
  go_enter Try.func21, Try.ntmps21
  go_wp2_with (go_at_call 47; fail)
  refine HOF.out.mono ?_
  rintro e w1 ⟨rfl, rfl⟩
  cases off with
  | true =>
    have hl : L = (5, T, P) := by rw [HE.out]; simp
    have HLL := Lib.hid hl
    clear hl HE HRL HNEW HC
    go_wp2
    go_ret
    rw [HLL.out]
    exact ⟨rfl, HH.out⟩
  | false =>
    have HE2 : Hid (L = if er ≠ 0 then (er, T, P) else if P.spent then (0, ⟨T.p, ks', T.at_ + 1⟩, P.spend) else if P.lays then (5, ⟨T.p, ks', T.at_⟩, P.spend) else (5, T, P.spend)) := by
      show _ = _
      rw [HE.out]; simp
    clear HE
    go_wp2
    go_region_held3 (fun V => V.cell? ⟨g, 0, none⟩ = some (.int .i64 T.p) ∧ V.cell? ⟨g, 1, none⟩ = some (.slice ko n kc) ∧ V.cell? ⟨g, 3, none⟩ = some (.int .i64 T.at_)) (first | exact HC.out _ (HB5.out.alloc HB5.out.size _) | exact HC.out _ ((HB5.out.setCell (Nat.le_refl _) _).setCell (Nat.le_refl _) _) | exact HC.out _ HB5.out | exact HC.out _ ((Below.refl _ _).alloc (Nat.le_refl _) _).drew | exact HC.out _ (Below.refl _ _).drew)
      ((first
        | (go_at_call 50; (with_reducible refine (HRL.out w.drew (Below.refl _ _).drew).mono ?_); rintro e w5 ⟨k5, n5, c5, cs5, rfl, hO5, hk5, hB5⟩;
           have HO5 : Hid (OCs w5 base k5 n5 c5 cs5) := hO5.low HS.out.d.low.2.2;
           have HK5 := Lib.hid hk5;
           have HB5 : Hid (Below w.heap.size w w5) := (Below.refl _ _).drew.trans hB5;
           clear hO5 hk5 hB5)
        | (go_at_call 50; (with_reducible refine (HRL.out (w.alloc (.cells #[.int .i64 0, .slice none 0 0] 82)).drew ((Below.refl _ _).alloc (Nat.le_refl _) _).drew).mono ?_); rintro e w5 ⟨k5, n5, c5, cs5, rfl, hO5, hk5, hB5⟩;
           have hle : w.heap.size ≤ (w.alloc (.cells #[.int .i64 0, .slice none 0 0] 82)).drew.heap.size := (by show _ ≤ (w.alloc _).heap.size; rw [World.size_alloc]; exact Nat.le_succ _);
           have HO5 : Hid (OCs w5 base k5 n5 c5 cs5) := hO5.low (Nat.le_trans HS.out.d.low.2.2 hle);
           have HK5 := Lib.hid hk5;
           have zm := cells2at (w := (w.alloc (.cells #[.int .i64 0, .slice none 0 0] 82)).drew) (new_cell (.int .i64 0) (.slice none 0 0) 82) hB5;
           obtain ⟨q0, q1, qf⟩ := cells2 zm;
           have ZM := Lib.hid zm;
           have HB5 : Hid (Below w.heap.size w w5) := ((Below.refl _ _).alloc (Nat.le_refl _) _).drew.trans (hB5.mono hle);
           clear hO5 hk5 hB5 zm hle)))
    all_goals
      first
        | (have hy := heap2 ZM.out (.int .i64 p') (.slice k5 n5 c5)
           have hO := HO5.out.set2 ZM.out (.int .i64 p') (.slice k5 n5 c5) (by decide) (by decide)
           have hW := (HB5.out.setCell (Nat.le_refl _) (.int .i64 p') (p := ⟨w.heap.size, 0, none⟩)).setCell (Nat.le_refl _) (.slice k5 n5 c5) (p := ⟨w.heap.size, 1, none⟩)
           clear q0 q1 qf)
        | (have hy := new_cell (w := w5) (.int .i64 p') (.slice k5 n5 c5) 82
           have hO := HO5.out.below ((Below.refl w5.heap.size w5).alloc (Nat.le_refl _) (.cells #[.int .i64 p', .slice k5 n5 c5] 82))
           have hW := HB5.out.alloc HB5.out.size (.cells #[.int .i64 p', .slice k5 n5 c5] 82))
      have hS := HS.out.below hW
      obtain ⟨y0, y1, _⟩ := cells2 hy
      by_cases he : er = 0
      · subst he
        obtain ⟨hgd, hna, hpp⟩ := HNEW.out rfl
        subst hpp
        have hn5 : T.at_ ≤ n5 := by
          have h1 := hO.len
          have h2 : (keys cs5).length = ks'.length := by rw [HK5.out]
          rw [keys_len] at h2
          omega
        have hbc := dbecome hS k5 n5 c5 cs5 T.p ks' hO HK5.out hgd hn5
        obtain ⟨sp, hsp⟩ : ∃ sp, sp = P.spent := ⟨_, rfl⟩
        rw [← hsp] at hbc HE2
        have HBC := Lib.hid hbc
        have HE3 : Hid (L = if sp then (0, ⟨T.p, ks', T.at_ + 1⟩, P.spend) else if P.lays then (5, ⟨T.p, ks', T.at_⟩, P.spend) else (5, T, P.spend)) := by
          show _ = _
          rw [HE2.out, if_neg (by decide)]
        have hly : sp = true → P.lays = true := fun e => by unfold PP.lays; rw [← hsp, e]; rfl
        have HLY := Lib.hid hly
        have HN5 := Lib.hid hn5; have HNA := Lib.hid hna
        have HLEN5 : Hid (ks'.length = n5) := by
          show _ = _
          have h1 := hO.len
          have h2 : (keys cs5).length = ks'.length := by rw [HK5.out]
          rw [keys_len] at h2
          omega
        clear hgd hna hn5 hbc hsp hly hS hW hO hy
        go_wp2_with (go_at_call 51; fail)
        refine HBC.out.mono ?_
        rintro e w7 ⟨rfl, hs7⟩
        cases sp with
        | true =>
          rw [HLY.out rfl] at hs7
          obtain ⟨k7, n7, c7, cs7, hs7⟩ := hs7
          obtain ⟨d0, d1, d2, d3, df⟩ := hs7.d.c
          have hl7 := hs7.len
          have hst := hs7.setAt (a := T.at_ + 1) (by have := HNA.out; have h8 : ks'.length = n7 := (by simpa using hl7); omega)
          have HST := Lib.hid hst
          clear hs7 hst hl7
          go_wp2
          go_ret
          have hl : L = (0, ⟨T.p, ks', T.at_ + 1⟩, P.spend) := by rw [HE3.out]; simp
          rw [hl]
          exact ⟨rfl, _, _, _, _, HST.out⟩
        | false =>
          have HS7 := Lib.hid hs7
          clear hs7
          go_wp2
          go_ret
          cases hlay : P.lays with
          | true =>
            have hl : L = (5, ⟨T.p, ks', T.at_⟩, P.spend) := by rw [HE3.out, hlay]; simp
            rw [hl]
            have := HS7.out
            rw [hlay] at this
            exact ⟨rfl, by simpa using this⟩
          | false =>
            have hl : L = (5, T, P.spend) := by rw [HE3.out, hlay]; simp
            rw [hl]
            have := HS7.out
            rw [hlay] at this
            exact ⟨rfl, by simpa using this⟩
      · have e1 : (er == 0) = false := beq_eq_false_iff_ne.2 he
        have hl : L = (er, T, P) := by rw [HE2.out, if_pos he]
        have HLL := Lib.hid hl; have HS5 := Lib.hid hS
        clear he hl hS hO hy hW
        go_wp2
        go_ret
        rw [HLL.out]
        exact ⟨rfl, _, _, _, _, HS5.out⟩

/-- What fin tells, and leaves. -/
def TD.fin (T : TD) (P : PP) : Int × TD × PP :=
  if P.off then (5, T, P) else if (endK T.p T.ks T.at_).1 ≠ 0 then ((endK T.p T.ks T.at_).1, T, P) else
  if P.spent then (0, ⟨T.p, (endK T.p T.ks T.at_).2.2, T.at_⟩, P.spend) else if P.lays then (5, ⟨T.p, (endK T.p T.ks T.at_).2.2, T.at_⟩, P.spend) else (5, T, P.spend)
set_option maxHeartbeats 8000000 in
theorem dfin {w0 w : World} {base Bp g gp : Nat} {T : TD} {P : PP} (h : Dsy w0 w base Bp g gp T P) : Calls Try.prog 23 #[.pointer (some ⟨g, 0, none⟩)] w fun e w' => e = .returned (.int .i64 (T.fin P).1) ∧ Dsy w0 w' base Bp g gp (T.fin P).2.1 (T.fin P).2.2 := by
  have hof := doff h
  have HH := Lib.hid h
  obtain ⟨ko, n, kc, cs, h⟩ := h
  have hks : Tap.ks ⟨T.p, ko, n, kc, cs⟩ = T.ks := h.ks
  have hrl := fun V (hV : Below w.heap.size w V) => rl_end ⟨T.p, ko, n, kc, cs⟩ T.at_ V (h.tap.below hV) (by rw [hks]; exact h.good)
  rw [hks] at hrl
  simp only at hrl
  have hlen := h.len
  have hgk := good_keysK h.good
  have hat := h.at_
  have hnew : (endK T.p T.ks T.at_).1 = 0 → goodK T.p (endK T.p T.ks T.at_).2.2 = true ∧ T.at_ ≤ (endK T.p T.ks T.at_).2.2.length ∧ (endK T.p T.ks T.at_).2.1 = T.p := by
    unfold endK
    rw [if_pos ⟨by omega, by omega⟩]
    intro _
    rw [Int.toNat_natCast]
    refine ⟨goodK_take h.good _, ?_, rfl⟩
    simp; omega
  have hE : T.fin P = if P.off then (5, T, P) else if (endK T.p T.ks T.at_).1 ≠ 0 then ((endK T.p T.ks T.at_).1, T, P) else
    if P.spent then (0, ⟨T.p, (endK T.p T.ks T.at_).2.2, T.at_⟩, P.spend) else if P.lays then (5, ⟨T.p, (endK T.p T.ks T.at_).2.2, T.at_⟩, P.spend) else (5, T, P.spend) := rfl
  obtain ⟨L, hL⟩ : ∃ L, L = T.fin P := ⟨_, rfl⟩
  rw [← hL] at hE ⊢
  obtain ⟨r, hr⟩ : ∃ r, r = (endK T.p T.ks T.at_) := ⟨_, rfl⟩
  rw [← hr] at hE hrl hnew
  obtain ⟨er, p', ks'⟩ := r
  simp only at hE hnew
  obtain ⟨off, hoff⟩ : ∃ off, off = P.off := ⟨_, rfl⟩
  rw [← hoff] at hof hE
  have HOF := Lib.hid hof; have HE := Lib.hid hE; have HRL := Lib.hid hrl; have HNEW := Lib.hid hnew; have HS := Lib.hid h; have HLN := Lib.hid hlen; have HGK := Lib.hid hgk
  have HC : Hid (∀ V, Below w.heap.size w V → V.cell? ⟨g, 0, none⟩ = some (.int .i64 T.p) ∧ V.cell? ⟨g, 1, none⟩ = some (.slice ko n kc) ∧ V.cell? ⟨g, 3, none⟩ = some (.int .i64 T.at_)) := fun V hV => by
    obtain ⟨a, b, c, d, e⟩ := (h.below hV).d.c
    exact ⟨a, b, d⟩
  have b1 : (T.at_ : Int) + 1 ≤ 1000 := by omega
  clear h hof hE hrl hnew hlen hgk hks hL hr hoff
  go_enter Try.func23, Try.ntmps23
  go_wp2_with (go_at_call 47; fail)
  refine HOF.out.mono ?_
  rintro e w1 ⟨rfl, rfl⟩
  cases off with
  | true =>
    have hl : L = (5, T, P) := by rw [HE.out]; simp
    have HLL := Lib.hid hl
    clear hl HE HRL HNEW HC
    go_wp2
    go_ret
    rw [HLL.out]
    exact ⟨rfl, HH.out⟩
  | false =>
    have HE2 : Hid (L = if er ≠ 0 then (er, T, P) else if P.spent then (0, ⟨T.p, ks', T.at_⟩, P.spend) else if P.lays then (5, ⟨T.p, ks', T.at_⟩, P.spend) else (5, T, P.spend)) := by
      show _ = _
      rw [HE.out]; simp
    clear HE
    go_wp2
    go_region_held3 (fun V => V.cell? ⟨g, 0, none⟩ = some (.int .i64 T.p) ∧ V.cell? ⟨g, 1, none⟩ = some (.slice ko n kc) ∧ V.cell? ⟨g, 3, none⟩ = some (.int .i64 T.at_)) (first | exact HC.out _ (HB5.out.alloc HB5.out.size _) | exact HC.out _ ((HB5.out.setCell (Nat.le_refl _) _).setCell (Nat.le_refl _) _) | exact HC.out _ HB5.out | exact HC.out _ ((Below.refl _ _).alloc (Nat.le_refl _) _).drew | exact HC.out _ (Below.refl _ _).drew)
      ((first
        | (go_at_call 54; (with_reducible refine (HRL.out w.drew (Below.refl _ _).drew).mono ?_); rintro e w5 ⟨k5, n5, c5, cs5, rfl, hO5, hk5, hB5⟩;
           have HO5 : Hid (OCs w5 base k5 n5 c5 cs5) := hO5.low HS.out.d.low.2.2;
           have HK5 := Lib.hid hk5;
           have HB5 : Hid (Below w.heap.size w w5) := (Below.refl _ _).drew.trans hB5;
           clear hO5 hk5 hB5)
        | (go_at_call 54; (with_reducible refine (HRL.out (w.alloc (.cells #[.int .i64 0, .slice none 0 0] 82)).drew ((Below.refl _ _).alloc (Nat.le_refl _) _).drew).mono ?_); rintro e w5 ⟨k5, n5, c5, cs5, rfl, hO5, hk5, hB5⟩;
           have hle : w.heap.size ≤ (w.alloc (.cells #[.int .i64 0, .slice none 0 0] 82)).drew.heap.size := (by show _ ≤ (w.alloc _).heap.size; rw [World.size_alloc]; exact Nat.le_succ _);
           have HO5 : Hid (OCs w5 base k5 n5 c5 cs5) := hO5.low (Nat.le_trans HS.out.d.low.2.2 hle);
           have HK5 := Lib.hid hk5;
           have zm := cells2at (w := (w.alloc (.cells #[.int .i64 0, .slice none 0 0] 82)).drew) (new_cell (.int .i64 0) (.slice none 0 0) 82) hB5;
           obtain ⟨q0, q1, qf⟩ := cells2 zm;
           have ZM := Lib.hid zm;
           have HB5 : Hid (Below w.heap.size w w5) := ((Below.refl _ _).alloc (Nat.le_refl _) _).drew.trans (hB5.mono hle);
           clear hO5 hk5 hB5 zm hle)))
    all_goals
      first
        | (have hy := heap2 ZM.out (.int .i64 p') (.slice k5 n5 c5)
           have hO := HO5.out.set2 ZM.out (.int .i64 p') (.slice k5 n5 c5) (by decide) (by decide)
           have hW := (HB5.out.setCell (Nat.le_refl _) (.int .i64 p') (p := ⟨w.heap.size, 0, none⟩)).setCell (Nat.le_refl _) (.slice k5 n5 c5) (p := ⟨w.heap.size, 1, none⟩)
           clear q0 q1 qf)
        | (have hy := new_cell (w := w5) (.int .i64 p') (.slice k5 n5 c5) 82
           have hO := HO5.out.below ((Below.refl w5.heap.size w5).alloc (Nat.le_refl _) (.cells #[.int .i64 p', .slice k5 n5 c5] 82))
           have hW := HB5.out.alloc HB5.out.size (.cells #[.int .i64 p', .slice k5 n5 c5] 82))
      have hS := HS.out.below hW
      obtain ⟨y0, y1, _⟩ := cells2 hy
      by_cases he : er = 0
      · subst he
        obtain ⟨hgd, hna, hpp⟩ := HNEW.out rfl
        subst hpp
        have hn5 : T.at_ ≤ n5 := by
          have h1 := hO.len
          have h2 : (keys cs5).length = ks'.length := by rw [HK5.out]
          rw [keys_len] at h2
          omega
        have hbc := dbecome hS k5 n5 c5 cs5 T.p ks' hO HK5.out hgd hn5
        obtain ⟨sp, hsp⟩ : ∃ sp, sp = P.spent := ⟨_, rfl⟩
        rw [← hsp] at hbc HE2
        have HBC := Lib.hid hbc
        have HE3 : Hid (L = if sp then (0, ⟨T.p, ks', T.at_⟩, P.spend) else if P.lays then (5, ⟨T.p, ks', T.at_⟩, P.spend) else (5, T, P.spend)) := by
          show _ = _
          rw [HE2.out, if_neg (by decide)]
        have hly : sp = true → P.lays = true := fun e => by unfold PP.lays; rw [← hsp, e]; rfl
        have HLY := Lib.hid hly
        have HN5 := Lib.hid hn5; have HNA := Lib.hid hna
        have HLEN5 : Hid (ks'.length = n5) := by
          show _ = _
          have h1 := hO.len
          have h2 : (keys cs5).length = ks'.length := by rw [HK5.out]
          rw [keys_len] at h2
          omega
        clear hgd hna hn5 hbc hsp hly hS hW hO hy
        go_wp2_with (go_at_call 51; fail)
        refine HBC.out.mono ?_
        rintro e w7 ⟨rfl, hs7⟩
        cases sp with
        | true =>
          rw [HLY.out rfl] at hs7
          obtain ⟨k7, n7, c7, cs7, hs7⟩ := hs7
          obtain ⟨d0, d1, d2, d3, df⟩ := hs7.d.c
          have hl7 := hs7.len
          have HST := Lib.hid hs7
          clear hs7 hl7
          go_wp2
          go_ret
          have hl : L = (0, ⟨T.p, ks', T.at_⟩, P.spend) := by rw [HE3.out]; simp
          rw [hl]
          exact ⟨rfl, _, _, _, _, by simpa using HST.out⟩
        | false =>
          have HS7 := Lib.hid hs7
          clear hs7
          go_wp2
          go_ret
          cases hlay : P.lays with
          | true =>
            have hl : L = (5, ⟨T.p, ks', T.at_⟩, P.spend) := by rw [HE3.out, hlay]; simp
            rw [hl]
            have := HS7.out
            rw [hlay] at this
            exact ⟨rfl, by simpa using this⟩
          | false =>
            have hl : L = (5, T, P.spend) := by rw [HE3.out, hlay]; simp
            rw [hl]
            have := HS7.out
            rw [hlay] at this
            exact ⟨rfl, by simpa using this⟩
      · have e1 : (er == 0) = false := beq_eq_false_iff_ne.2 he
        have hl : L = (er, T, P) := by rw [HE2.out, if_pos he]
        have HLL := Lib.hid hl; have HS5 := Lib.hid hS
        clear he hl hS hO hy hW
        go_wp2
        go_ret
        rw [HLL.out]
        exact ⟨rfl, _, _, _, _, HS5.out⟩

end Go.Proofs.Ytmcbmemgeegodaa
