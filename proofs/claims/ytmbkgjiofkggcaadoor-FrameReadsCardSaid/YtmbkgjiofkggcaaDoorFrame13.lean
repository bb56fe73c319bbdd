/-
  Frames: Split.
-/
import Derived.Test.YtmbkgjiofkggcaaDoorFrame12
namespace Go.Proofs.YtmbkgjiofkggcaaDoor
open Go.RowKit
set_option linter.unusedVariables false

/-- What Split tells of the bytes zs: which records, and the error's number. -/
inductive Spl : List Int → List (Int × Int × List Int) → Int → Prop
  | nil : Spl [] [] 0
  | bad {zs : List Int} : zs ≠ [] → rer zs ≠ 0 → Spl zs [] (rer zs)
  | step {zs : List Int} {ks : List (Int × Int × List Int)} {e : Int} : zs ≠ [] → rer zs = 0 → Spl (zs.drop (13 + rn zs)) ks e → Spl zs ((rk zs, rs' zs, rz zs) :: ks) e
theorem Spl.same {zs : List Int} {ks ks' : List (Int × Int × List Int)} {e e' : Int} (h : Spl zs ks e) (h' : Spl zs ks' e') (he : e = 0) : ks = ks' ∧ e = e' := by
  induction h generalizing ks' e' with
  | nil =>
    cases h' with
    | nil => exact ⟨rfl, rfl⟩
    | bad h _ => exact absurd rfl h
    | step h _ _ => exact absurd rfl h
  | bad h1 h2 => exact absurd he h2
  | step h1 h2 h3 ih =>
    cases h' with
    | nil => exact absurd rfl h1
    | bad _ h => exact absurd h2 h
    | step _ _ h4 =>
      obtain ⟨e1, e2⟩ := ih h4 he
      exact ⟨by rw [e1], e2⟩
theorem Spl.err {zs : List Int} {ks ks' : List (Int × Int × List Int)} {e e' : Int} (h : Spl zs ks e) (h' : Spl zs ks' e') : e = e' := by
  induction h generalizing ks' e' with
  | nil =>
    cases h' with
    | nil => rfl
    | bad h _ => exact absurd rfl h
    | step h _ _ => exact absurd rfl h
  | bad h1 h2 =>
    cases h' with
    | nil => exact absurd rfl h1
    | bad _ _ => rfl
    | step _ h _ => exact absurd h h2
  | step h1 h2 h3 ih =>
    cases h' with
    | nil => exact absurd rfl h1
    | bad _ h => exact absurd h2 h
    | step _ _ h4 => exact ih h4
theorem rer_len {ys : List Int} (h : rer ys = 0) : 13 + rn ys ≤ ys.length ∧ rn ys ≤ 8000 := by
  unfold rer at h
  by_cases h1 : ys.length < 9
  · rw [if_pos h1] at h; omega
  · rw [if_neg h1] at h
    by_cases h2 : ¬ nok (rk ys) (rs' ys) ∨ 8000 < rn ys ∨ ys.length < 13 + rn ys
    · rw [if_pos h2] at h; omega
    · constructor
      · exact Nat.le_of_not_lt fun h3 => h2 (.inr (.inr h3))
      · exact Nat.le_of_not_lt fun h3 => h2 (.inr (.inl h3))

set_option maxHeartbeats 1000000 in
theorem split_any (ao : Option Addr) (len cap : Nat) (zs : List Int) (w : World) (hT : Tab w) (hl : zs.length = len) (hlc : len ≤ cap) (hm : len ≤ 1000000000) (hcm : cap ≤ maxLen) (hr : Rd w ao zs) (hz : Bts zs) :
    Calls Tryd.prog 30 #[.slice ao len cap] w fun e w' => ∃ ks er, Spl zs ks er ∧
      ((er = 0 ∧ ∃ rs ko kc, e = .returned (.tuple #[.slice ko rs.length kc, .int .i64 0]) ∧ ORs w' w.heap.size ko rs.length kc rs ∧ rs.map Rec.key = ks ∧ Below w.heap.size w w') ∨
       (er ≠ 0 ∧ e = .returned (.tuple #[.slice none 0 0, .int .i64 er]) ∧ Below w.heap.size w w')) := by
  have HL := Lib.hid hl; have HR := Lib.hid hr; have HZ := Lib.hid hz; have HT := Lib.hid hT; have HCM := Lib.hid hcm
  clear hl hr hz hT hcm
  go_enter Tryd.func30, Tryd.ntmps30
  go_wp2
  go_loopw [4, 5] (fun v i wr => ∃ (p : Nat) (ko : Option Addr) (kc : Nat) (rs : List Rec), p ≤ len ∧ i = .int .i64 p ∧ v = .slice ko rs.length kc ∧ ORs wr w.heap.size ko rs.length kc rs ∧ (∀ ks e, Spl (zs.drop p) ks e → Spl zs (rs.map Rec.key ++ ks) e) ∧ rs.length ≤ p ∧ Below w.heap.size w wr) (fun _ i _ => len - (intOf i).toNat)
  case atStart => exact ⟨0, none, 0, [], Nat.zero_le _, rfl, rfl, ORs.nil _ _, fun ks e h => h, Nat.zero_le _, Below.refl _ _⟩
  case round =>
    obtain ⟨p, ko, kc, rs, hp, rfl, rfl, hors, hspl, hrp, hB⟩ := hrel
    have HB := Lib.hid hB; have HO := Lib.hid hors; have HS := Lib.hid hspl
    by_cases hlt : p < len
    · have d1 : decide ((p : Int) < (len : Int)) = true := decide_eq_true (by omega)
      have hrd := fread_any ao len cap zs p wr (HT.out.below hB) HL.out hlc hm HCM.out (HR.out.below hB) HZ.out
      obtain ⟨ys, hys⟩ : ∃ ys, ys = zs.drop p := ⟨_, rfl⟩
      have hyl : ys.length = len - p := by rw [hys, List.length_drop, HL.out]
      have hne : ys ≠ [] := fun e => by rw [e] at hyl; simp at hyl; omega
      have HRD := Lib.hid hrd; have HY := Lib.hid hys; have HYL := Lib.hid hyl; have HNE := Lib.hid hne
      clear hB hors hspl hrd hys hyl hne
      go_wp2_with (go_at_call 26; fail)
      refine HRD.out.mono ?_
      rintro e w3 (⟨h1, _⟩ | ⟨_, h0, h1⟩ | ⟨_, h0, h1⟩)
      · have := HL.out; omega
      · rw [Int.toNat_natCast, ← HY.out] at h0 h1
        obtain ⟨k, hk⟩ : ∃ k, k = rk ys := ⟨_, rfl⟩
        obtain ⟨s, hs⟩ : ∃ s, s = rs' ys := ⟨_, rfl⟩
        obtain ⟨m, hmm⟩ : ∃ m, m = rn ys := ⟨_, rfl⟩
        obtain ⟨z, hzz⟩ : ∃ z, z = rz ys := ⟨_, rfl⟩
        obtain ⟨hln, hm8⟩ := rer_len h0
        rw [← hmm, HYL.out] at hln
        rw [← hmm] at hm8
        rw [← hk, ← hs, ← hmm, ← hzz] at h1
        obtain ⟨k3, c3, rfl, ho3, hB3⟩ := h1
        have hzb : Bts z := by rw [hzz]; exact ((show Bts ys by rw [HY.out]; exact HZ.out.drop _).drop _).take _
        have hq3 : Own1 w3 ⟨k3, m, c3, z⟩ := Own1.of_ow ho3 hzb
        have hstep : ∀ ks e, Spl (zs.drop (p + 13 + m)) ks e → Spl zs ((rs ++ [(⟨k, s, ⟨k3, m, c3, z⟩⟩ : Rec)]).map Rec.key ++ ks) e := fun ks e h => by
          have hd : zs.drop (p + 13 + m) = ys.drop (13 + rn ys) := by rw [HY.out, List.drop_drop, ← HY.out, ← hmm, Nat.add_assoc]
          rw [hd] at h
          have h2 := HS.out ((rk ys, rs' ys, rz ys) :: ks) e (by rw [← HY.out]; exact Spl.step HNE.out h0 h)
          rw [List.map_append, List.append_assoc]
          simpa [Rec.key, hk, hs, hzz] using h2
        have hb1 : Below w3.heap.size w3 (w3.alloc (.cells #[.int .i64 k, .int .i64 s, .slice k3 m c3] 29)) := (Below.refl _ _).alloc (Nat.le_refl _) _
        have hb2 : Below w3.heap.size w3 ((w3.alloc (.cells #[.int .i64 k, .int .i64 s, .slice k3 m c3] 29)).alloc (.cells #[.int .i64 k, .int .i64 s, .slice k3 m c3] 29)) := hb1.alloc hb1.size _
        have hgx : ((w3.alloc (.cells #[.int .i64 k, .int .i64 s, .slice k3 m c3] 29)).alloc (.cells #[.int .i64 k, .int .i64 s, .slice k3 m c3] 29)).heap[w3.heap.size + 1]? = some (.cells #[.int .i64 k, .int .i64 s, .slice k3 m c3] 29) := by
          have := heap_alloc_new (w3.alloc (.cells #[.int .i64 k, .int .i64 s, .slice k3 m c3] 29)) (.cells #[.int .i64 k, .int .i64 s, .slice k3 m c3] 29)
          rw [World.size_alloc] at this
          exact this
        have HB4 := Lib.hid (HB.out.trans ((hB3.trans (hb2.mono hB3.size)).mono HB.out.size))
        have HO4 := Lib.hid ((HO.out.below hB3).below hb2)
        have HQ4 := Lib.hid (hq3.below hb2)
        have HG := Lib.hid hgx; have HSTEP := Lib.hid hstep
        clear hk hs hmm hzz ho3 hB3 hzb hq3 hstep hb1 hb2 hgx h0
        go_wp2_with (at_builtin; refine append_rec rfl (.tmp 23) (.tmp 25) rfl w.heap.size rs.length kc (w3.heap.size + 1) ko rs ⟨k, s, ⟨k3, m, c3, z⟩⟩ rfl HO4.out rfl HG.out HQ4.out (by omega) HB4.out.size ?_; intro ko' kc' w5 ho5 hB5; have HO5 := Lib.hid ho5; have HB5 := Lib.hid (HB4.out.trans hB5); clear ho5 hB5)
        go_roundw
        case rel =>
          refine ⟨p + 13 + m, ko', kc', rs ++ [⟨k, s, ⟨k3, m, c3, z⟩⟩], by omega, by go_num, by simp, ?_, HSTEP.out, by simp; omega, HB5.out⟩
          have : (rs ++ [(⟨k, s, ⟨k3, m, c3, z⟩⟩ : Rec)]).length = rs.length + 1 := by simp
          rw [this]; exact HO5.out
        case measure => simp [intOf]; omega
      · rw [Int.toNat_natCast, ← HY.out] at h0 h1
        have hsp := HS.out [] (rer ys) (by rw [← HY.out]; exact Spl.bad HNE.out h0)
        obtain ⟨er, her⟩ : ∃ er, er = rer ys := ⟨_, rfl⟩
        rw [← her] at h0 h1 hsp
        obtain ⟨rfl, hB3⟩ := h1
        have d2 : (er != 0) = true := by simp [h0]
        have HB3 := Lib.hid (HB.out.trans (hB3.mono HB.out.size)); have HSP := Lib.hid hsp; have H0 := Lib.hid h0
        clear hsp her hB3 h0
        go_wp2
        go_ret2
        exact ⟨_, er, HSP.out, .inr ⟨H0.out, rfl, HB3.out.alloc HB3.out.size _⟩⟩
    · have d1 : decide ((p : Int) < (len : Int)) = false := decide_eq_false (by omega)
      have hsp := hspl [] 0 (by rw [List.drop_of_length_le (by rw [HL.out]; omega)]; exact Spl.nil)
      rw [List.append_nil] at hsp
      have HSP := Lib.hid hsp
      clear hB hors hspl hsp
      go_wp2
      go_ret2
      exact ⟨_, 0, HSP.out, .inl ⟨rfl, rs, ko, kc, rfl, HO.out, rfl, HB.out⟩⟩

end Go.Proofs.YtmbkgjiofkggcaaDoor
