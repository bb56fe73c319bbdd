/-
  The published sum, plainly.
-/
import Derived.Test.YtdpnkdliibccjaaDoorBase
namespace Go.Proofs.YtdpnkdliibccjaaDoor
open Go.RowKit
set_option linter.unusedVariables false

abbrev W32 := BitVec 32
/-- The state's eight words. -/
structure St where
  a : BitVec 32
  b : BitVec 32
  c : BitVec 32
  d : BitVec 32
  e : BitVec 32
  f : BitVec 32
  g : BitVec 32
  h : BitVec 32
def rr (x : BitVec 32) (n : Nat) : BitVec 32 := x >>> n ||| x <<< (32 - n)
def big0 (a : BitVec 32) : BitVec 32 := rr a 2 ^^^ rr a 13 ^^^ rr a 22
def big1 (e : BitVec 32) : BitVec 32 := rr e 6 ^^^ rr e 11 ^^^ rr e 25
def sml0 (x : BitVec 32) : BitVec 32 := rr x 7 ^^^ rr x 18 ^^^ x >>> 3
def sml1 (x : BitVec 32) : BitVec 32 := rr x 17 ^^^ rr x 19 ^^^ x >>> 10
def cho (e f g : BitVec 32) : BitVec 32 := (e &&& f) ^^^ (~~~ e &&& g)
def maj (a b c : BitVec 32) : BitVec 32 := (a &&& b) ^^^ (a &&& c) ^^^ (b &&& c)
def kl : List (BitVec 32) := [
  0x428a2f98#32, 0x71374491#32, 0xb5c0fbcf#32, 0xe9b5dba5#32, 0x3956c25b#32, 0x59f111f1#32, 0x923f82a4#32, 0xab1c5ed5#32,
  0xd807aa98#32, 0x12835b01#32, 0x243185be#32, 0x550c7dc3#32, 0x72be5d74#32, 0x80deb1fe#32, 0x9bdc06a7#32, 0xc19bf174#32,
  0xe49b69c1#32, 0xefbe4786#32, 0x0fc19dc6#32, 0x240ca1cc#32, 0x2de92c6f#32, 0x4a7484aa#32, 0x5cb0a9dc#32, 0x76f988da#32,
  0x983e5152#32, 0xa831c66d#32, 0xb00327c8#32, 0xbf597fc7#32, 0xc6e00bf3#32, 0xd5a79147#32, 0x06ca6351#32, 0x14292967#32,
  0x27b70a85#32, 0x2e1b2138#32, 0x4d2c6dfc#32, 0x53380d13#32, 0x650a7354#32, 0x766a0abb#32, 0x81c2c92e#32, 0x92722c85#32,
  0xa2bfe8a1#32, 0xa81a664b#32, 0xc24b8b70#32, 0xc76c51a3#32, 0xd192e819#32, 0xd6990624#32, 0xf40e3585#32, 0x106aa070#32,
  0x19a4c116#32, 0x1e376c08#32, 0x2748774c#32, 0x34b0bcb5#32, 0x391c0cb3#32, 0x4ed8aa4a#32, 0x5b9cca4f#32, 0x682e6ff3#32,
  0x748f82ee#32, 0x78a5636f#32, 0x84c87814#32, 0x8cc70208#32, 0x90befffa#32, 0xa4506ceb#32, 0xbef9a3f7#32, 0xc67178f2#32]
def kk (t : Nat) : BitVec 32 := kl.getD t 0#32
def st0 : St := ⟨0x6a09e667#32, 0xbb67ae85#32, 0x3c6ef372#32, 0xa54ff53a#32, 0x510e527f#32, 0x9b05688c#32, 0x1f83d9ab#32, 0x5be0cd19#32⟩
/-- Four bytes as a word. -/
def wd (l : List Int) (i : Nat) : BitVec 32 := BitVec.ofNat 32 ((((l.getD i 0).toNat * 256 + (l.getD (i + 1) 0).toNat) * 256 + (l.getD (i + 2) 0).toNat) * 256 + (l.getD (i + 3) 0).toNat)
def nxw (l : List Int) (s : List (BitVec 32)) (t : Nat) : BitVec 32 :=
  if t < 16 then wd l (4 * t) else sml1 (s.getD (t - 2) 0#32) + s.getD (t - 7) 0#32 + sml0 (s.getD (t - 15) 0#32) + s.getD (t - 16) 0#32
/-- The words of a block. -/
def sch (l : List Int) : Nat → List (BitVec 32)
  | 0 => []
  | t + 1 => sch l t ++ [nxw l (sch l t) t]
def St.next (s : St) (k w : BitVec 32) : St :=
  ⟨(s.h + big1 s.e + cho s.e s.f s.g + k + w) + (big0 s.a + maj s.a s.b s.c), s.a, s.b, s.c, s.d + (s.h + big1 s.e + cho s.e s.f s.g + k + w), s.e, s.f, s.g⟩
def rnd (ws : List (BitVec 32)) (s : St) : Nat → St
  | 0 => s
  | t + 1 => (rnd ws s t).next (kk t) (ws.getD t 0#32)
def St.add (s t : St) : St := ⟨s.a + t.a, s.b + t.b, s.c + t.c, s.d + t.d, s.e + t.e, s.f + t.f, s.g + t.g, s.h + t.h⟩
/-- A block mixed in. -/
def mixd (s : St) (l : List Int) : St := s.add (rnd (sch l 64) s 64)
/-- The state behind n blocks. -/
def hs (m : List Int) : Nat → St
  | 0 => st0
  | n + 1 => mixd (hs m n) ((m.drop (64 * n)).take 64)
def St.l (s : St) : List (BitVec 32) := [s.a, s.b, s.c, s.d, s.e, s.f, s.g, s.h]
/-- A word's bytes, the most significant one first. -/
def wb (x : BitVec 32) : List Int := [((x.toNat / 16777216 % 256 : Nat) : Int), ((x.toNat / 65536 % 256 : Nat) : Int), ((x.toNat / 256 % 256 : Nat) : Int), ((x.toNat % 256 : Nat) : Int)]
def St.bytes (s : St) : List Int := s.l.flatMap wb
/-- A text and what is laid behind it. -/
def be8 (n : Nat) : List Int := (List.range 8).map fun i => ((n / 2 ^ (8 * (7 - i)) % 256 : Nat) : Int)
def zn (n : Nat) : Nat := (119 - n % 64) % 64
def padd (m : List Int) : List Int := m ++ ([128] ++ (List.replicate (zn m.length) 0 ++ be8 (8 * m.length)))
/-- THE SUM. -/
def shaOf (m : List Int) : List Int := (hs (padd m) ((padd m).length / 64)).bytes

theorem sch_len (l : List Int) : ∀ t, (sch l t).length = t
  | 0 => rfl
  | t + 1 => by unfold sch; rw [List.length_append, sch_len l t]; rfl
theorem sch_get (l : List Int) (i : Nat) : ∀ t, i < t → (sch l t).getD i 0#32 = nxw l (sch l i) i
  | 0, h => absurd h (Nat.not_lt_zero _)
  | t + 1, h => by
    have hl := sch_len l t
    show (sch l t ++ [nxw l (sch l t) t]).getD i 0#32 = _
    by_cases e : i = t
    · subst e
      simp [List.getD, hl]
    · rw [← sch_get l i t (by omega)]
      simp only [List.getD]
      rw [List.getElem?_append_left (by omega)]
theorem nxw_ref (l : List Int) (s : List (BitVec 32)) (t : Nat) (h : 16 ≤ t) : nxw l s t = s.getD (t - 16) 0#32 + s.getD (t - 7) 0#32 + sml0 (s.getD (t - 15) 0#32) + sml1 (s.getD (t - 2) 0#32) := by
  unfold nxw
  rw [if_neg (by omega)]
  ac_rfl
theorem hs_app (m x : List Int) : ∀ n, 64 * n ≤ m.length → hs (m ++ x) n = hs m n
  | 0, _ => rfl
  | n + 1, h => by
    unfold hs
    rw [hs_app m x n (by omega), List.drop_append_of_le_length (by omega), List.take_append_of_le_length (by rw [List.length_drop]; omega)]
theorem padd_len (m : List Int) : (padd m).length % 64 = 0 ∧ (padd m).length = m.length + 9 + zn m.length := by
  have h : (padd m).length = m.length + 9 + zn m.length := by simp [padd, be8]; omega
  refine ⟨?_, h⟩
  rw [h]; unfold zn; omega

/-! The arithmetic of the machine, word by word. -/
theorem toInt_of (a : BitVec 32) : BitVec.ofInt 32 (a.toNat : Int) = a := by rw [BitVec.ofInt_natCast]; simp
theorem wrap_nat (n : Nat) (h : n < 4294967296) : IntKind.u32.wrap (n : Int) = n := by rw [IntKind.wrap_u32]; omega
theorem xor_u32 (a b : BitVec 32) : Go.bits .xor .u32 (a.toNat : Int) (b.toNat : Int) = ((a ^^^ b).toNat : Int) := by
  show IntKind.u32.wrap ((BitVec.ofInt 32 (a.toNat : Int) ^^^ BitVec.ofInt 32 (b.toNat : Int)).toNat : Int) = _
  rw [toInt_of, toInt_of, wrap_nat _ (BitVec.isLt _)]
theorem and_u32 (a b : BitVec 32) : Go.bits .and .u32 (a.toNat : Int) (b.toNat : Int) = ((a &&& b).toNat : Int) := by
  show IntKind.u32.wrap ((BitVec.ofInt 32 (a.toNat : Int) &&& BitVec.ofInt 32 (b.toNat : Int)).toNat : Int) = _
  rw [toInt_of, toInt_of, wrap_nat _ (BitVec.isLt _)]
theorem or_u32 (a b : BitVec 32) : Go.bits .or .u32 (a.toNat : Int) (b.toNat : Int) = ((a ||| b).toNat : Int) := by
  show IntKind.u32.wrap ((BitVec.ofInt 32 (a.toNat : Int) ||| BitVec.ofInt 32 (b.toNat : Int)).toNat : Int) = _
  rw [toInt_of, toInt_of, wrap_nat _ (BitVec.isLt _)]
theorem not_u32 (a : BitVec 32) : Go.bits .xor .u32 IntKind.u32.max (a.toNat : Int) = ((~~~ a).toNat : Int) := by
  have e : IntKind.u32.max = (((0xffffffff#32 : BitVec 32).toNat : Nat) : Int) := by decide
  rw [e, xor_u32]
  congr 2
theorem shr_u32 (a : BitVec 32) (k : Nat) : (a.toNat : Int) / 2 ^ k = ((a >>> k).toNat : Int) := by
  rw [BitVec.toNat_ushiftRight, Nat.shiftRight_eq_div_pow, Int.natCast_ediv, Int.natCast_pow]; rfl
theorem shl_u32 (a : BitVec 32) (k : Nat) : (a.toNat : Int) * 2 ^ k % 4294967296 = ((a <<< k).toNat : Int) := by
  rw [BitVec.toNat_shiftLeft, Nat.shiftLeft_eq, Int.natCast_emod, Int.natCast_mul, Int.natCast_pow]; rfl
theorem add_u32 (a b : BitVec 32) : ((a.toNat : Int) + b.toNat) % 4294967296 = ((a + b).toNat : Int) := by
  rw [BitVec.toNat_add]; omega

end Go.Proofs.YtdpnkdliibccjaaDoor
