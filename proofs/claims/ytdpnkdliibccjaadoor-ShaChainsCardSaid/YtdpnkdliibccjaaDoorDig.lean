/-
  The digest: what it holds of a text; copies into its block.
-/
import Derived.Test.YtdpnkdliibccjaaDoorMix
import Derived.Deep.RegionLaw
namespace Go.Proofs.YtdpnkdliibccjaaDoor
open Go.RowKit
set_option linter.unusedVariables false

/-- What the words and the block say of the text so far. -/
structure Dgd (M : List Int) (s : St) (bl : List Int) : Prop where
  len : bl.length = 64
  bts : Bts bl
  st : s = hs M (M.length / 64)
  tk : bl.take (M.length % 64) = M.drop (64 * (M.length / 64))
theorem splice_len {α : Type} (L : List α) (off : Nat) (cs : List α) (h : off + cs.length ≤ L.length) : (splice L off cs).length = L.length := length_splice L off cs h
theorem bts_splice {L x : List Int} {off : Nat} (h : Bts L) (hx : Bts x) : Bts (splice L off x) := Bts.append (h.take _) (Bts.append hx (h.drop _))
theorem splice_take (L x : List Int) (off : Nat) (h : off + x.length ≤ L.length) : (splice L off x).take (off + x.length) = L.take off ++ x := by
  unfold splice
  rw [← List.append_assoc, List.take_append_of_le_length (by simp; omega), List.take_of_length_le (by simp; omega)]
theorem Dgd.app {M x : List Int} {s : St} {bl : List Int} (h : Dgd M s bl) (hb : M.length % 64 + x.length ≤ 64) : (splice bl (M.length % 64) x).take (M.length % 64 + x.length) = (M ++ x).drop (64 * (M.length / 64)) := by
  rw [splice_take _ _ _ (by rw [h.len]; exact hb), h.tk, List.drop_append_of_le_length (by omega)]
theorem Dgd.part {M x : List Int} {s : St} {bl : List Int} (h : Dgd M s bl) (hx : Bts x) (hb : M.length % 64 + x.length < 64) : Dgd (M ++ x) s (splice bl (M.length % 64) x) := by
  have e1 : (M ++ x).length / 64 = M.length / 64 := by rw [List.length_append]; omega
  have e2 : (M ++ x).length % 64 = M.length % 64 + x.length := by rw [List.length_append]; omega
  refine ⟨by rw [splice_len _ _ _ (by rw [h.len]; omega)]; exact h.len, bts_splice h.bts hx, ?_, ?_⟩
  · rw [e1, hs_app _ _ _ (by omega)]; exact h.st
  · rw [e1, e2]; exact h.app (by omega)
theorem Dgd.full {M x : List Int} {s : St} {bl : List Int} (h : Dgd M s bl) (hx : Bts x) (hb : M.length % 64 + x.length = 64) : Dgd (M ++ x) (mixd s (splice bl (M.length % 64) x)) (splice bl (M.length % 64) x) := by
  have e1 : (M ++ x).length / 64 = M.length / 64 + 1 := by rw [List.length_append]; omega
  have e2 : (M ++ x).length % 64 = 0 := by rw [List.length_append]; omega
  have hl : (splice bl (M.length % 64) x).length = 64 := by rw [splice_len _ _ _ (by rw [h.len]; omega)]; exact h.len
  have ht := h.app (x := x) (by omega)
  rw [hb, List.take_of_length_le (by omega)] at ht
  refine ⟨hl, bts_splice h.bts hx, ?_, ?_⟩
  · rw [e1]
    show _ = mixd (hs (M ++ x) (M.length / 64)) (((M ++ x).drop (64 * (M.length / 64))).take 64)
    rw [hs_app _ _ _ (by omega), ← h.st, ← ht, List.take_of_length_le (by omega)]
  · rw [e1, e2, List.drop_eq_nil_of_le (by rw [List.length_append]; omega)]; rfl
def Dg (w : World) (g : Nat) (M : List Int) (N : Nat) : Prop := ∃ s bl, Dgd M s bl ∧ Blk w g 42 (dcs s bl ((M.length % 64 : Nat) : Int) (N : Int))
theorem Dg.near {w w' : World} {g k : Nat} {M : List Int} {N : Nat} (h : Dg w g M N) (hn : Near k w w') (hk : g ≠ k) : Dg w' g M N := by
  obtain ⟨s, bl, h1, h2⟩ := h
  exact ⟨s, bl, h1, hn.blk h2 hk⟩
theorem Dg.below {w w' : World} {g : Nat} {M : List Int} {N : Nat} (h : Dg w g M N) (hB : Below w.heap.size w w') : Dg w' g M N := by
  obtain ⟨s, bl, h1, h2⟩ := h
  exact ⟨s, bl, h1, h2.below hB⟩
theorem Dg.lt {w : World} {g : Nat} {M : List Int} {N : Nat} (h : Dg w g M N) : g < w.heap.size := by
  obtain ⟨s, bl, h1, h2⟩ := h
  exact h2.lt

theorem dcs_splice (s : St) (bl x : List Int) (f n : Int) (o : Nat) (hl : bl.length = 64) (hb : o + x.length ≤ 64) : splice (dcs s bl f n) (8 + o) (x.map (Value.int .u8)) = dcs s (splice bl o x) f n := by
  have hw : (s.l.map uv).length = 8 := rfl
  obtain ⟨A, hA⟩ : ∃ A, A = s.l.map uv := ⟨_, rfl⟩
  unfold dcs splice
  rw [← hA] at hw ⊢
  rw [List.length_map, List.take_append, hw, List.take_of_length_le (by omega), Nat.add_sub_cancel_left, List.take_append_of_le_length (by simp; omega), List.drop_append, hw,
    List.drop_eq_nil_of_le (by omega), List.nil_append, show 8 + o + x.length - 8 = o + x.length by omega, List.drop_append_of_le_length (by simp; omega)]
  simp only [List.map_append, List.map_take, List.map_drop, List.append_assoc]

/-- A copy into a part of block g, as one step of a region that draws. -/
theorem step_copy_blk {ops : Array Oper} {o : Oper} {a : Act} {w : World} {K : Act → World → Prop} {Q : Exit → Act → World → Prop} {E : Prop} (hgd : o.guard = none) (d s : Operand)
    (ho : o.op = .call { callee := .builtin .copy, args := #[d, s], argTypes := #[28, 28] }) (g off dLen dCap sLen sCap cnt : Nat) (ad : Addr) (hd : a.eval d = .slice (some ⟨g, off, none⟩) dLen dCap) (hs : a.eval s = .slice (some ad) sLen sCap)
    (L cs : List Value) (t : TypeId) (hg : Blk w g t L) (hc : cs.length = cnt) (hn : cnt = Nat.min sLen dLen) (hsrc : ∀ j v, cs[j]? = some v → w.cell? (ad.add j) = some v) (hfit : off + cnt ≤ L.length) (h1 : ∀ v ∈ cs, v.oneCell' = true)
    (h : ∀ w', Hid (Blk w' g t (splice L off cs)) → Hid (Only g w w') → K (a.put o.dst (goInt cnt)) w') :
    if Region.wanted o (yielded ops a.tmps) = true then Oper.wp Tryd.prog o a w K Q else E := by
  have hw : Region.wanted o (yielded ops a.tmps) = true := by simp [Region.wanted, hgd]
  rw [if_pos hw]
  have hrun := run_copy_row (P := Tryd.prog) w 28 28 o.type 5 g off dLen dCap ad sLen sCap L.toArray t cs Tryd.underlying28 (by kernel_rfl) hg (by rw [hc]; exact hn) hsrc (by simpa [hc] using hfit) h1
  unfold Oper.wp
  simp [execOp, ho, resolve, invoke, builtin, hd, hs, hrun, Result.andThen]
  rw [hc]
  have hg' : w.heap[g]? = some (.cells L.toArray t (0, 0)) := hg
  exact h _ (show _ = _ by simpa [splice, hc] using setRow_heap w g _ _ t _ hg') (by show Only g w _; simpa [hc] using only_setRow g w _)
end Go.Proofs.YtdpnkdliibccjaaDoor
