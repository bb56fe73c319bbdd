/-
  The disk: Erase, New.
-/
import Derived.Test.YtaajdaikfabchaaDk5
import Derived.Lib.SliceRun
namespace Go.Proofs.Ytaajdaikfabchaa
open Go.RowKit
set_option linter.unusedVariables false

theorem info73 : (Try.prog.info? 73).map (fun i => (i.zero, i.size, i.bytes)) = some (some (.agg #[.slice none 0 0, .bool false]), 2, 32) := by kernel_rfl
/-- Noughts. -/
def secs0 (n : Nat) : List Sec := List.replicate n Sec.none
theorem scs0 (n : Nat) : scs (secs0 n) = (madeCells #[.slice none 0 0, .bool false] (n * 2)).toList := by
  apply List.ext_getElem?
  intro i
  have hl : (scs (secs0 n)).length = n * 2 := by unfold scs secs0; rw [two_len, List.length_replicate]
  by_cases hi : i < n * 2
  · have e1 : (madeCells #[.slice none 0 0, .bool false] (n * 2)).toList[i]? = some (#[Value.slice none 0 0, .bool false][i % 2]!) := by simp [madeCells, hi]
    rw [e1]
    obtain ⟨h1, h2⟩ := two_get (fun s : Sec => .slice s.d.a s.d.l s.d.c) (fun s => .bool s.t) (secs0 n) (i / 2) (by unfold secs0; rw [List.length_replicate]; omega)
    have hs : (secs0 n)[i / 2]'(by unfold secs0; rw [List.length_replicate]; omega) = Sec.none := by unfold secs0; rw [List.getElem_replicate]
    rw [hs] at h1 h2
    unfold scs
    rcases Nat.mod_two_eq_zero_or_one i with h | h
    · rw [show i = i / 2 * 2 by omega, h1, show i / 2 * 2 % 2 = 0 by omega]; rfl
    · rw [show i = i / 2 * 2 + 1 by omega, h2, show (i / 2 * 2 + 1) % 2 = 1 by omega]; rfl
  · rw [List.getElem?_eq_none (by omega), List.getElem?_eq_none (by simp [madeCells]; omega)]
theorem make_secs (n : Nat) (hn : n ≤ 1000000) (w : World) : (Instr.makeSlice 64 (.int .i64 (n : Int)) (.int .i64 (n : Int))).run Try.prog w = .ok (.slice (some ⟨w.heap.size, 0, none⟩) n n) (w.alloc (.cells (scs (secs0 n)).toArray 73)) := by
  obtain ⟨i0, hi, hz0, hz1, hz2⟩ := info_parts info73
  have hb : (i0.bytes : Int) * (n : Int) ≤ 281474976710656 := by rw [hz2]; omega
  have hr := run_make (P := Try.prog) w 64 73 i0 _ Try.underlying64 hi hz0 .i64 .i64 (n : Int) (n : Int) (by omega) (by omega) hb (by omega)
  simp only [Int.toNat_natCast] at hr
  rw [hz1] at hr
  rw [scs0]
  exact hr

/-- A block is laid anew, whole. -/
theorem blk_setCells {g t : Nat} : ∀ (vs pre L : List Value) (w : World), Blk w g t (pre ++ L) → vs.length = L.length → Blk (w.setCells g pre.length vs) g t (pre ++ vs)
  | [], pre, L, w, h, hl => by
    have : L = [] := List.eq_nil_of_length_eq_zero (by simpa using hl.symm)
    subst this; exact h
  | v :: r, pre, L, w, h, hl => by
    cases L with
    | nil => simp at hl
    | cons y L =>
      have h1 := h.set (j := pre.length) v
      rw [List.set_append_right _ _ (Nat.le_refl _), Nat.sub_self, List.set_cons_zero] at h1
      have h2 := blk_setCells r (pre ++ [v]) L (w.setCell ⟨g, pre.length, none⟩ v) (by rw [List.append_assoc]; exact h1) (by simpa using hl)
      rw [List.append_assoc, List.length_append] at h2
      exact h2
theorem setCells_rest {g : Nat} : ∀ (vs : List Value) (o : Nat) (w : World), Below g w (w.setCells g o vs) ∧ ∀ b, b ≠ g → (w.setCells g o vs).heap[b]? = w.heap[b]?
  | [], o, w => ⟨Below.refl _ _, fun _ _ => rfl⟩
  | v :: r, o, w => by
    obtain ⟨h1, h2⟩ := setCells_rest r (o + 1) (w.setCell ⟨g, o, none⟩ v)
    exact ⟨((Below.refl g w).setCell (Nat.le_refl _) _).trans h1, fun b hb => (h2 b hb).trans (set_far _ _ _ _ _ hb)⟩
theorem KT.cells {S : Nat → Bool} {x : Option Nat} {w : World} {g t : Nat} {cs : Array Value} {fr : Nat × Nat} (hg : w.heap[g]? = some (.cells cs t fr)) (hS : S t = true) (o : Nat) (vs : List Value) : KT S x w (w.setCells g o vs) := by
  obtain ⟨h1, h2⟩ := setCells_rest (g := g) vs o w
  refine ⟨h1.size, fun b cs' t' fr' _ h3 hb => ?_⟩
  have hne : b ≠ g := fun e => by
    subst e
    rw [hg] at hb
    simp only [Option.some.injEq, Obj.cells.injEq] at hb
    rw [← hb.2.1, hS] at h3
    cases h3
  rw [h2 b hne]; exact hb

/-- clear, of sectors. -/
theorem wpList_clear {w : World} {ops : Array Oper} {rest : List Oper} {o : Oper} {a : Act} {Q : Exit → Act → World → Prop} (hgd : o.guard = none) (d : Operand)
    (ho : o.op = .call { callee := .builtin .clear, args := #[d], argTypes := #[64] }) (g n : Nat) (hn : 0 < n) (hd : a.eval d = .slice (some ⟨g, 0, none⟩) n n) (ss : List Sec) (hs : Blk w g 73 (scs ss)) (hl : ss.length = n)
    (h : wpList Try.prog ops Q rest (a.put o.dst (.tuple #[])) (w.setCells g 0 (scs (secs0 n)))) : wpList Try.prog ops Q (o :: rest) a w := by
  refine wpList_plain hgd fun K hK => ?_
  have hz : ∀ w, (zeroValue 73).run Try.prog w = .ok (.agg #[.slice none 0 0, .bool false]) w := by
    obtain ⟨i0, hi, hz0, hz1, hz2⟩ := info_parts info73
    intro w
    simp [zeroValue, typeInfo, hi, hz0]
  have hzc : (Builtin.zeroCells (Value.agg #[.slice none 0 0, .bool false]).cells n).toList = scs (secs0 n) := by
    rw [scs0]; rfl
  have hlen : (scs (secs0 n)).length = n * 2 := by unfold scs secs0; rw [two_len, List.length_replicate]
  have hl2 : (scs ss).length = n * 2 := by unfold scs; rw [two_len, hl]
  have hst := run_storeCells_cells (P := Try.prog) g 0 (scs (secs0 n)) 0 w (fun j hj => by simp only [Nat.zero_add]; rw [hs.cell (by omega)]; rfl) (fun j hj => hs.free) (by
    intro v hv
    unfold scs two secs0 at hv
    obtain ⟨s, hs1, hs2⟩ := List.mem_flatMap.1 hv
    simp at hs2
    rcases hs2 with rfl | rfl <;> rfl)
  obtain ⟨m, rfl⟩ : ∃ m, n = m + 1 := ⟨n - 1, by omega⟩
  have hrun : ∀ ty, (Builtin.clear_ #[64] ty #[.slice (some ⟨g, 0, none⟩) (m + 1) (m + 1)]).run Try.prog w = .ok (.tuple #[]) (w.setCells g 0 (scs (secs0 (m + 1)))) := by
    intro ty
    simp only [Nat.add_zero] at hst
    simp [Builtin.clear_, run_underlying Try.underlying64, hz, hzc, hst]
  unfold Oper.wp
  simp [execOp, ho, resolve, invoke, builtin, hd, hrun, Result.andThen]
  exact hK _ _ h

section
variable {w0 w : World} {B Bp g gp gn gs : Nat} {life : Int} {n : Nat} {oo : Option Addr} {k oc : Nat} {ns ss : List Sec} {xs : List Wr} {P : PP}
theorem mem_secs0 {s : Sec} {n : Nat} (h : s ∈ secs0 n) : s = Sec.none := (List.mem_replicate.1 h).2
theorem Sy.wipeN (h : Sy w0 w B Bp g gp gn gs life n oo k oc ns ss xs P) : Sy w0 (w.setCells gn 0 (scs (secs0 n))) B Bp g gp gn gs life n oo k oc (secs0 n) ss xs P := by
  have hb := h.d.now
  have hk : KT (fun t => t == 73) Option.none w (w.setCells gn 0 (scs (secs0 n))) := KT.cells hb rfl _ _
  obtain ⟨hB, ho⟩ := setCells_rest (g := gn) (scs (secs0 n)) 0 w
  have hD : ∀ d, Dat w B d → Dat (w.setCells gn 0 (scs (secs0 n))) B d := fun d hd => hd.kt hk rfl (fun _ _ => nofun)
  have h1 : Blk (w.setCells gn 0 (scs (secs0 n))) gn 73 (scs (secs0 n)) := by
    have := blk_setCells (scs (secs0 n)) [] (scs ns) w hb (by unfold scs; rw [two_len, two_len, h.d.ln]; unfold secs0; rw [List.length_replicate])
    simpa using this
  exact ⟨⟨hk.keep _ _ _ _ nofun rfl h.d.blk, h1, (ho gs h.d.ne.symm).trans h.d.safe, own_heap h.d.opn fun g' cur hg => ho g' (tag_ne hg hb (by decide)), by unfold secs0; rw [List.length_replicate], h.d.ls, h.d.lx, h.d.ne, h.d.hn,
    ⟨h.d.low.1, h.d.low.2.1, h.d.low.2.2.1, h.d.low.2.2.2.1, Nat.le_trans h.d.low.2.2.2.2 hB.size⟩, fun s hs => by rw [mem_secs0 hs]; exact .inl rfl, fun s hs => hD _ (h.d.ds s hs), fun x hx => ⟨hD _ (h.d.dx x hx).1, (h.d.dx x hx).2⟩⟩,
    h.p.kt hk rfl rfl (fun _ => nofun), h.low.trans (hB.mono h.d.low.2.1), h.kt.trans (KT.cells hb rfl _ _)⟩
theorem Sy.wipeS (h : Sy w0 w B Bp g gp gn gs life n oo k oc ns ss xs P) : Sy w0 (w.setCells gs 0 (scs (secs0 n))) B Bp g gp gn gs life n oo k oc ns (secs0 n) xs P := by
  have hb := h.d.safe
  have hk : KT (fun t => t == 73) Option.none w (w.setCells gs 0 (scs (secs0 n))) := KT.cells hb rfl _ _
  obtain ⟨hB, ho⟩ := setCells_rest (g := gs) (scs (secs0 n)) 0 w
  have hD : ∀ d, Dat w B d → Dat (w.setCells gs 0 (scs (secs0 n))) B d := fun d hd => hd.kt hk rfl (fun _ _ => nofun)
  have h1 : Blk (w.setCells gs 0 (scs (secs0 n))) gs 73 (scs (secs0 n)) := by
    have := blk_setCells (scs (secs0 n)) [] (scs ss) w hb (by unfold scs; rw [two_len, two_len, h.d.ls]; unfold secs0; rw [List.length_replicate])
    simpa using this
  exact ⟨⟨hk.keep _ _ _ _ nofun rfl h.d.blk, (ho gn h.d.ne).trans h.d.now, h1, own_heap h.d.opn fun g' cur hg => ho g' (tag_ne hg hb (by decide)), h.d.ln, by unfold secs0; rw [List.length_replicate], h.d.lx, h.d.ne, h.d.hn,
    ⟨h.d.low.1, h.d.low.2.1, h.d.low.2.2.1, h.d.low.2.2.2.1, Nat.le_trans h.d.low.2.2.2.2 hB.size⟩, fun s hs => hD _ (h.d.dn s hs), fun s hs => by rw [mem_secs0 hs]; exact .inl rfl, fun x hx => ⟨hD _ (h.d.dx x hx).1, (h.d.dx x hx).2⟩⟩,
    h.p.kt hk rfl rfl (fun _ => nofun), h.low.trans (hB.mono h.d.low.2.2.1), h.kt.trans (KT.cells hb rfl _ _)⟩
end

def DS.erase (D : DS) (n : Nat) : DS := ⟨D.life, secs0 n, secs0 n, []⟩
/-- What Erase leaves. -/
def DS.era (D : DS) (P : PP) (n : Nat) : DS := if P.off then D.wake P else (D.wake P).erase n
theorem erase_any {w0 w : World} {B Bp g gp n : Nat} {D : DS} {P : PP} (h : Sys w0 w B Bp g gp n D P) (hx6 : D.xs.length ≤ 1000000) :
    Calls Try.prog 26 #[.pointer (some ⟨g, 0, none⟩)] w fun e w' => e = .returned (.int .i64 (if P.off then 5 else 0)) ∧ Sys w0 w' B Bp g gp n (D.era P n) P := by
  have HW := Lib.hid (wake_any h hx6)
  have HD : Hid (D.era P n = if P.off then D.wake P else (D.wake P).erase n) := rfl
  obtain ⟨off, hof⟩ : ∃ off, off = P.off := ⟨_, rfl⟩
  rw [← hof] at HW HD ⊢
  obtain ⟨D2, hD2⟩ : ∃ D2, D2 = D.era P n := ⟨_, rfl⟩
  obtain ⟨D1, hD1⟩ : ∃ D1, D1 = D.wake P := ⟨_, rfl⟩
  rw [← hD2] at HD ⊢
  rw [← hD1] at HD HW
  clear h hD2 hD1 hx6 hof
  cases off with
  | true =>
    obtain rfl : D2 = D1 := HD.out
    clear HD
    go_enter Try.func26, Try.ntmps26
    go_wp2_with (go_at_call 34; refine HW.out.mono ?_; rintro e w1 ⟨rfl, hs⟩; have HS := Lib.hid hs; clear hs)
    go_ret
    exact ⟨rfl, HS.out⟩
  | false =>
    have hdd : D2 = D1.erase n := HD.out
    have HDD := Lib.hid hdd
    clear HD hdd
    go_enter Try.func26, Try.ntmps26
    go_wp2_with (go_at_call 34; fail)
    refine HW.out.mono ?_
    rintro e w1 ⟨rfl, gn, gs, oo, k, oc, hs⟩
    have HN : Hid (0 < n) := hs.d.hn.1
    obtain ⟨c0, c1, c2, c3, c4, fg, fn, fs⟩ := hs.d.c
    have HS := Lib.hid hs
    have HS2 := Lib.hid hs.wipeN
    have HS3 := Lib.hid hs.wipeN.wipeS
    obtain ⟨d0, d1, d2, d3, d4, dg, dn, ds⟩ := HS2.out.d.c
    obtain ⟨e0, e1, e2, e3, e4, eg, en, es⟩ := HS3.out.d.c
    obtain ⟨Z, hZ⟩ : ∃ Z, Z = scs (secs0 n) := ⟨_, rfl⟩
    rw [← hZ] at d0 d1 d2 d3 d4 dg dn ds e0 e1 e2 e3 e4 eg en es HS2 HS3
    have HZ := Lib.hid hZ
    clear hs hZ
    go_wp2_with (first
      | ((with_reducible refine wpList_clear rfl (.tmp 9) rfl gn n HN.out rfl D1.ns HS.out.d.now HS.out.d.ln ?_); rw [← HZ.out])
      | ((with_reducible refine wpList_clear rfl (.tmp 13) rfl gs n HN.out rfl D1.ss HS2.out.d.safe HS2.out.d.ls ?_); rw [← HZ.out]))
    go_ret
    refine ⟨rfl, ?_⟩
    rw [HDD.out]
    exact ⟨_, _, _, _, _, HS3.out.shut⟩

end Go.Proofs.Ytaajdaikfabchaa
