/-
  Frames: Bytes, Clone.
-/
import Derived.Test.YtifbbikhjolnjaaDoorFrame2
import Derived.Test.YtifbbikhjolnjaaDoorRead
namespace Go.Proofs.YtifbbikhjolnjaaDoor
open Go.RowKit
set_option linter.unusedVariables false

theorem frs_one (r : Rec) : frs [r] = fr r.k r.s r.d.z := by unfold frs; simp only [List.flatMap_cons, List.flatMap_nil, List.append_nil]
theorem je_one (r : Rec) : je [r] = chk r.k r.s r.d.l := by
  unfold je; by_cases h : chk r.k r.s r.d.l = 0
  · rw [if_pos h, h]; rfl
  · rw [if_neg h]
theorem fbytes_any (r : Rec) (w : World) (hT : Tab w) (hd : r.d.ok w) :
    Calls Tryd.prog 32 #[r.v] w fun e w' => (chk r.k r.s r.d.l = 0 ∧ RB w (13 + r.d.l) (fr r.k r.s r.d.z) e w') ∨ (chk r.k r.s r.d.l ≠ 0 ∧ e = .returned (.tuple #[.slice none 0 0, .int .i64 (chk r.k r.s r.d.l)]) ∧ Below w.heap.size w w') := by
  have hlen : (fr r.k r.s r.d.z).length = 13 + r.d.l := by rw [fr_len, hd.len]
  obtain ⟨W1, hW1⟩ : ∃ W1, W1 = (w.alloc (.cells #[.int .i64 r.k, .int .i64 r.s, .slice r.d.a r.d.l r.d.c] 43)).alloc (.cells #[.int .i64 r.k, .int .i64 r.s, .slice r.d.a r.d.l r.d.c] 43) := ⟨_, rfl⟩
  have hB1 : Below w.heap.size w W1 := by rw [hW1]; exact ((Below.refl _ _).alloc (Nat.le_refl _) _).alloc (by simp) _
  have hbx : W1.heap[w.heap.size + 1]? = some (.cells #[.int .i64 r.k, .int .i64 r.s, .slice r.d.a r.d.l r.d.c] 43) := by
    have := heap_alloc_new (w.alloc (.cells #[.int .i64 r.k, .int .i64 r.s, .slice r.d.a r.d.l r.d.c] 43)) (.cells #[.int .i64 r.k, .int .i64 r.s, .slice r.d.a r.d.l r.d.c] 43)
    rw [World.size_alloc] at this
    rw [hW1]; exact this
  have hrs : Rs W1 (some ⟨w.heap.size + 1, 0, none⟩) [r] := .inr ⟨_, 0, rfl, fun i hi => by
    have : i = 0 := by simp at hi; omega
    subst this
    refine ⟨?_, ?_, ?_, hd.below hB1⟩ <;> simp [World.cell?, hbx]⟩
  have HJ := Lib.hid (join_any (some ⟨w.heap.size + 1, 0, none⟩) 1 1 [r] W1 rfl (by omega) (hT.below hB1) hrs)
  rw [je_one, frs_one, hlen] at HJ
  obtain ⟨q, hq⟩ : ∃ q, q = chk r.k r.s r.d.l := ⟨_, rfl⟩
  obtain ⟨xs, hxs⟩ : ∃ xs, xs = fr r.k r.s r.d.z := ⟨_, rfl⟩
  rw [← hq, ← hxs] at HJ ⊢
  have HW1 := Lib.hid hW1; have HB1 := Lib.hid hB1
  clear hW1 hB1 hbx hrs hq hxs hlen hT hd
  obtain ⟨k, s, ⟨a, n, c, z⟩⟩ := r
  simp only at HW1 HJ ⊢
  show Calls Tryd.prog 32 #[.agg #[.int .i64 k, .int .i64 s, .slice a n c]] w _
  go_enter Tryd.func32, Tryd.ntmps32
  go_wp2_with (go_at_call 31; fail)
  rw [← HW1.out]
  refine HJ.out.mono ?_
  rintro e w2 (⟨h0, ko, kc, rfl, ho, hB2⟩ | ⟨h0, rfl, hB2⟩)
  · have HE : Hid (RB w (13 + n) xs (.returned (.tuple #[.slice ko (13 + n) kc, .int .i64 0])) w2) := ⟨ko, kc, rfl, ho.base HB1.out.size, HB1.out.trans (hB2.mono HB1.out.size)⟩
    have HQ := Lib.hid h0
    clear h0 ho hB2
    go_wp2
    go_ret2
    exact .inl ⟨HQ.out, HE.out⟩
  · have HB2 : Hid (Below w.heap.size w w2) := HB1.out.trans (hB2.mono HB1.out.size)
    have HQ := Lib.hid h0
    clear h0 hB2
    go_wp2
    go_ret2
    exact .inr ⟨HQ.out, rfl, HB2.out⟩
theorem clone_some (ad : Addr) (n cap : Nat) (zs : List Int) (w : World) (hl : zs.length = n) (hm : n ≤ 1000000) (h : Rd w (some ad) zs) :
    Calls Tryd.prog 24 #[.slice (some ad) n cap] w (R1 w n zs) := by
  have q : ∀ (w : World) (a : Option Addr) (n c n' c' : Nat), (binOp .eql 39 (.slice a n c) (.slice none n' c')).run Tryd.prog w = .ok (.bool a.isNone) w := fun w a n c n' c' => Lib.run_eql_slice_nil w _ _ a n c n' c' Tryd.underlying39
  have H := Lib.hid h; have HL := Lib.hid hl
  have hown : (w.alloc (.cells #[] 5)).ownsRow w.heap.size 5 1 (.slice (some ⟨w.heap.size, 0, none⟩) 0 0) 0 [] := World.ownsRow_lit (base := w.heap.size) (e := 5) (size := 1) w #[] 0 (Nat.le_refl _) (Nat.zero_le _) rfl
  have hB0 : Below w.heap.size w (w.alloc (.cells #[] 5)) := (Below.refl _ _).alloc (Nat.le_refl _) _
  have HO : Hid (Ow (w.alloc (.cells #[] 5)) w.heap.size (some ⟨w.heap.size, 0, none⟩) 0 0 []) := ⟨rfl, Nat.le_refl _, by unfold maxLen; omega, hown⟩
  have HB0 := Lib.hid hB0
  clear h hl hown hB0
  go_enter Tryd.func24, Tryd.ntmps24
  go_wp2_with (at_builtin; refine append_bytes rfl (.tmp 5) (.tmp 6) rfl w.heap.size 0 0 n cap (some ⟨w.heap.size, 0, none⟩) (some ad) [] zs rfl HO.out rfl (H.out.below HB0.out) HL.out (fun h => by cases h) (by omega) HB0.out.size ?_; intro ko' kc' w' how hB; have HE : Hid (R1 w n zs (.returned (.slice ko' n kc')) w') := (⟨ko', kc', rfl, by have := how; rw [Nat.zero_add] at this; exact this, HB0.out.trans hB⟩); clear how hB)
  go_ret
  exact HE.out

end Go.Proofs.YtifbbikhjolnjaaDoor
