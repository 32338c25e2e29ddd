/- What the texts of layer 6's statements lean on of package cipher, as one thing to prove: each call's answer. Block and Xor of package cipher, and the document's, for keys, nonces and messages of any size. Plain mathematics of package poly: numbers of digits by 256, what Clamp clears, the tag. It speaks of no program. Rows of numbers of type int that a call makes for itself: made, appended to, stored into, read. Rows of bytes that a call makes for itself, and bytes stored into them. -/
import Derived.Test.YtmnhpkdldeifgaaGreatDoorGm
import Derived.Test.YtmnhpkdldeifgaaGreatDoorGa
import Derived.Test.YtmnhpkdldeifgaaGreatDoorGb
import Derived.IntWalk
namespace Go.Proofs.YtmnhpkdldeifgaaGreatDoor
set_option maxRecDepth 100000
open Go.RowKit

structure CipherIs : Prop where
  quarter : ∀ (a b c d : UInt32) (w : World),
    Calls Tryz.prog 91 #[wd a, wd b, wd c, wd d] w fun e w' => e = .returned (.tuple #[wd (quarter a b c d).1, wd (quarter a b c d).2.1, wd (quarter a b c d).2.2.1, wd (quarter a b c d).2.2.2]) ∧ Below w.heap.size w w'
  blockBad : ∀ (A0 A1 : Option Addr) (n0 n1 cap0 cap1 : Nat) (c : UInt32) (_ : n0 ≠ 32 ∨ n1 ≠ 12) (w : World),
    Calls Tryz.prog 52 #[.slice A0 n0 cap0, .slice A1 n1 cap1, wd c] w fun e w' => e = .returned (.tuple #[.slice none 0 0, .int .i64 2]) ∧ Below w.heap.size w w'
  block : ∀ (A0 A1 : Option Addr) (cap0 cap1 : Nat) (key nonce : List UInt8) (c : UInt32) (w : World) (_ : BytesAt w (.slice A0 32 cap0) key) (_ : BytesAt w (.slice A1 12 cap1) nonce),
    Calls Tryz.prog 52 #[.slice A0 32 cap0, .slice A1 12 cap1, wd c] w fun e w' => ∃ v', e = .returned (.tuple #[v', .int .i64 0]) ∧ BytesAt w' v' (blockC key nonce c) ∧ Below w.heap.size w w'
  xorBad : ∀ (A0 A1 A3 : Option Addr) (n0 n1 n cap0 cap1 cap3 : Nat) (c : UInt32) (_ : n0 ≠ 32 ∨ n1 ≠ 12) (_ : n ≤ 1000000) (w : World),
    Calls Tryz.prog 30 #[.slice A0 n0 cap0, .slice A1 n1 cap1, wd c, .slice A3 n cap3] w fun e w' => e = .returned (.tuple #[.slice none 0 0, .int .i64 2]) ∧ Below w.heap.size w w'
  xorBig : ∀ (A0 A1 A3 : Option Addr) (n cap0 cap1 cap3 : Nat) (c : UInt32) (_ : 4294967296 - c.toNat < (n + 63) / 64) (_ : n ≤ 1000000) (w : World),
    Calls Tryz.prog 30 #[.slice A0 32 cap0, .slice A1 12 cap1, wd c, .slice A3 n cap3] w fun e w' => e = .returned (.tuple #[.slice none 0 0, .int .i64 3]) ∧ Below w.heap.size w w'
  xor : ∀ (A0 A1 A3 : Option Addr) (n cap0 cap1 cap3 : Nat) (key nonce msg : List UInt8) (c : UInt32) (_ : (n + 63) / 64 ≤ 4294967296 - c.toNat) (_ : n ≤ 1000000) (w : World) (_ : BytesAt w (.slice A0 32 cap0) key) (_ : BytesAt w (.slice A1 12 cap1) nonce) (_ : BytesAt w (.slice A3 n cap3) msg),
    Calls Tryz.prog 30 #[.slice A0 32 cap0, .slice A1 12 cap1, wd c, .slice A3 n cap3] w fun e w' => ∃ v', e = .returned (.tuple #[v', .int .i64 0]) ∧ BytesAt w' v' (xorC key nonce c msg) ∧ Below w.heap.size w w'
end Go.Proofs.YtmnhpkdldeifgaaGreatDoor

namespace Go.Proofs.YtmnhpkdldeifgaaGreatDoor
set_option maxRecDepth 100000
open Go.RowKit

def blA (n0 n1 : Nat) (key nonce : List UInt8) (c : UInt32) : List UInt8 := if n0 ≠ 32 ∨ n1 ≠ 12 then [] else blockC key nonce c
def blC (n0 n1 : Nat) : Int := if n0 ≠ 32 ∨ n1 ≠ 12 then 2 else 0
def xoA (n0 n1 n : Nat) (key nonce : List UInt8) (c : UInt32) (msg : List UInt8) : List UInt8 := if n0 ≠ 32 ∨ n1 ≠ 12 then [] else if 4294967296 - c.toNat < (n + 63) / 64 then [] else xorC key nonce c msg
def xoC (n0 n1 n : Nat) (c : UInt32) : Int := if n0 ≠ 32 ∨ n1 ≠ 12 then 2 else if 4294967296 - c.toNat < (n + 63) / 64 then 3 else 0

theorem CipherIs.blockAll (H : CipherIs) (A0 A1 : Option Addr) (n0 n1 cap0 cap1 : Nat) (key nonce : List UInt8) (c : UInt32) (w : World) (h0 : BytesAt w (.slice A0 n0 cap0) key) (h1 : BytesAt w (.slice A1 n1 cap1) nonce) :
    Calls Tryz.prog 52 #[.slice A0 n0 cap0, .slice A1 n1 cap1, wd c] w fun e w' => ∃ v', e = .returned (.tuple #[v', .int .i64 (blC n0 n1)]) ∧ BytesAt w' v' (blA n0 n1 key nonce c) ∧ Below w.heap.size w w' := by
  by_cases h : n0 ≠ 32 ∨ n1 ≠ 12
  · rw [blA, blC, if_pos h, if_pos h]
    exact (H.blockBad A0 A1 n0 n1 cap0 cap1 c h w).mono fun _ _ ⟨he, hb⟩ => ⟨_, he, BytesAt.nil _, hb⟩
  · rw [blA, blC, if_neg h, if_neg h]
    obtain rfl : n0 = 32 := by omega
    obtain rfl : n1 = 12 := by omega
    exact H.block A0 A1 cap0 cap1 key nonce c w h0 h1
theorem refBlock_all (A0 A1 : Option Addr) (n0 n1 cap0 cap1 : Nat) (key nonce : List UInt8) (c : UInt32) (w : World) (h0 : BytesAt w (.slice A0 n0 cap0) key) (h1 : BytesAt w (.slice A1 n1 cap1) nonce) :
    Calls Tryz.prog 63 #[.slice A0 n0 cap0, .slice A1 n1 cap1, wd c] w fun e w' => ∃ v', e = .returned (.tuple #[v', .int .i64 (blC n0 n1)]) ∧ BytesAt w' v' (blA n0 n1 key nonce c) ∧ Below w.heap.size w w' := by
  by_cases h : n0 ≠ 32 ∨ n1 ≠ 12
  · rw [blA, blC, if_pos h, if_pos h]
    exact (refBlock_bad A0 A1 n0 n1 cap0 cap1 (wd c) h w).mono fun _ _ ⟨he, hb⟩ => ⟨_, he, BytesAt.nil _, hb⟩
  · rw [blA, blC, if_neg h, if_neg h]
    obtain rfl : n0 = 32 := by omega
    obtain rfl : n1 = 12 := by omega
    refine (refCiBlock_any A0 A1 cap0 cap1 key nonce c w h0 h1).mono fun _ _ ⟨v', he, ho, hb⟩ => ⟨v', he, ?_, hb⟩
    exact BytesAt.of_own (by rw [blockC_length]; exact ho)
theorem CipherIs.xorAll (H : CipherIs) (A0 A1 A3 : Option Addr) (n0 n1 n cap0 cap1 cap3 : Nat) (key nonce msg : List UInt8) (c : UInt32) (hn : n ≤ 1000000) (w : World) (h0 : BytesAt w (.slice A0 n0 cap0) key) (h1 : BytesAt w (.slice A1 n1 cap1) nonce) (h3 : BytesAt w (.slice A3 n cap3) msg) :
    Calls Tryz.prog 30 #[.slice A0 n0 cap0, .slice A1 n1 cap1, wd c, .slice A3 n cap3] w fun e w' => ∃ v', e = .returned (.tuple #[v', .int .i64 (xoC n0 n1 n c)]) ∧ BytesAt w' v' (xoA n0 n1 n key nonce c msg) ∧ Below w.heap.size w w' := by
  by_cases h : n0 ≠ 32 ∨ n1 ≠ 12
  · rw [xoA, xoC, if_pos h, if_pos h]
    exact (H.xorBad A0 A1 A3 n0 n1 n cap0 cap1 cap3 c h hn w).mono fun _ _ ⟨he, hb⟩ => ⟨_, he, BytesAt.nil _, hb⟩
  · rw [xoA, xoC, if_neg h, if_neg h]
    obtain rfl : n0 = 32 := by omega
    obtain rfl : n1 = 12 := by omega
    by_cases hb : 4294967296 - c.toNat < (n + 63) / 64
    · rw [if_pos hb, if_pos hb]
      exact (H.xorBig A0 A1 A3 n cap0 cap1 cap3 c hb hn w).mono fun _ _ ⟨he, hb⟩ => ⟨_, he, BytesAt.nil _, hb⟩
    · rw [if_neg hb, if_neg hb]
      exact H.xor A0 A1 A3 n cap0 cap1 cap3 key nonce msg c (by omega) hn w h0 h1 h3
theorem refXor_all (A0 A1 A3 : Option Addr) (n0 n1 n cap0 cap1 cap3 : Nat) (key nonce msg : List UInt8) (c : UInt32) (hn : n ≤ 1000000) (w : World) (h0 : BytesAt w (.slice A0 n0 cap0) key) (h1 : BytesAt w (.slice A1 n1 cap1) nonce) (h3 : BytesAt w (.slice A3 n cap3) msg) :
    Calls Tryz.prog 37 #[.slice A0 n0 cap0, .slice A1 n1 cap1, wd c, .slice A3 n cap3] w fun e w' => ∃ v', e = .returned (.tuple #[v', .int .i64 (xoC n0 n1 n c)]) ∧ BytesAt w' v' (xoA n0 n1 n key nonce c msg) ∧ Below w.heap.size w w' := by
  by_cases h : n0 ≠ 32 ∨ n1 ≠ 12
  · rw [xoA, xoC, if_pos h, if_pos h]
    exact (refXor_bad A0 A1 n0 n1 cap0 cap1 (wd c) _ h w).mono fun _ _ ⟨he, hb⟩ => ⟨_, he, BytesAt.nil _, hb⟩
  · rw [xoA, xoC, if_neg h, if_neg h]
    obtain rfl : n0 = 32 := by omega
    obtain rfl : n1 = 12 := by omega
    by_cases hb : 4294967296 - c.toNat < (n + 63) / 64
    · rw [if_pos hb, if_pos hb]
      exact (refXor_big A0 A1 A3 n cap0 cap1 cap3 c hb hn w).mono fun _ _ ⟨he, hb⟩ => ⟨_, he, BytesAt.nil _, hb⟩
    · rw [if_neg hb, if_neg hb]
      exact refXor_any A0 A1 A3 n cap0 cap1 cap3 key nonce msg c (by omega) hn w h0 h1 h3
end Go.Proofs.YtmnhpkdldeifgaaGreatDoor

namespace Go.Proofs.YtmnhpkdldeifgaaGreatDoor
set_option maxRecDepth 100000

/-- What the first m digits stand for. -/
def vt (l : List Nat) : Nat → Nat
  | 0 => 0
  | i + 1 => vt l i + 256 ^ i * l.getD i 0
theorem vt_ext (l l' : List Nat) (m : Nat) (h : ∀ i, i < m → l.getD i 0 = l'.getD i 0) : vt l m = vt l' m := by
  induction m with
  | zero => rfl
  | succ m ih => rw [vt, vt, ih fun i hi => h i (by omega), h m (by omega)]
theorem getD_set (l : List Nat) (i j x : Nat) (hi : i < l.length) : (l.set i x).getD j 0 = if i = j then x else l.getD j 0 := by
  simp only [List.getD, List.getElem?_set]
  by_cases h : i = j
  · subst h; simp [hi]
  · simp [h]
theorem vt_set (l : List Nat) (i x m : Nat) (hl : i < l.length) (hm : i < m) : vt (l.set i x) m + 256 ^ i * l.getD i 0 = vt l m + 256 ^ i * x := by
  induction m with
  | zero => omega
  | succ m ih =>
    rw [vt, vt, getD_set _ _ _ _ hl]
    by_cases h : i = m
    · subst h
      have e : vt (l.set i x) i = vt l i := vt_ext _ _ _ fun j hj => by rw [getD_set _ _ _ _ hl, if_neg (by omega)]
      rw [if_pos rfl, e]
      omega
    · have := ih (by omega)
      rw [if_neg h]
      omega
theorem vt_set_out (l : List Nat) (i x m : Nat) (hl : i < l.length) (hm : m ≤ i) : vt (l.set i x) m = vt l m :=
  vt_ext _ _ _ fun j hj => by rw [getD_set _ _ _ _ hl, if_neg (by omega)]
theorem vt_le (l : List Nat) (D m : Nat) (h : ∀ i, l.getD i 0 ≤ D) : vt l m ≤ D * 256 ^ m := by
  induction m with
  | zero => simp [vt]
  | succ m ih =>
    have h1 := Nat.mul_le_mul_left (256 ^ m) (h m)
    have e : D * 256 ^ (m + 1) = 256 * (D * 256 ^ m) := by rw [Nat.pow_succ, Nat.mul_comm (256 ^ m), ← Nat.mul_assoc, ← Nat.mul_assoc, Nat.mul_comm D 256]
    have e2 : 256 ^ m * D = D * 256 ^ m := Nat.mul_comm _ _
    rw [vt]
    omega
theorem vt_lt (l : List Nat) (m : Nat) (h : ∀ i, l.getD i 0 < 256) : vt l m < 256 ^ m := by
  induction m with
  | zero => simp [vt]
  | succ m ih =>
    have h1 := Nat.mul_le_mul_left (256 ^ m) (show l.getD m 0 ≤ 255 by have := h m; omega)
    rw [vt, Nat.pow_succ]
    omega
theorem vt_zeros (l : List Nat) (m k : Nat) (h : ∀ i, m ≤ i → l.getD i 0 = 0) : vt l (m + k) = vt l m := by
  induction k with
  | zero => rfl
  | succ k ih =>
    show vt l (m + k + 1) = _
    rw [vt, ih, h (m + k) (by omega)]
    simp
/-- All digits behind are 0, if it is small. -/
theorem vt_small (l : List Nat) (m k : Nat) (h : vt l (m + k) < 256 ^ m) : vt l m = vt l (m + k) := by
  induction k with
  | zero => rfl
  | succ k ih =>
    have e : vt l (m + (k + 1)) = vt l (m + k) + 256 ^ (m + k) * l.getD (m + k) 0 := rfl
    rw [e] at h ⊢
    have hp : 256 ^ m ≤ 256 ^ (m + k) := Nat.pow_le_pow_right (by decide) (by omega)
    have hz : l.getD (m + k) 0 = 0 := by
      rcases Nat.eq_zero_or_pos (l.getD (m + k) 0) with h0 | h0
      · exact h0
      · have := Nat.mul_le_mul_left (256 ^ (m + k)) h0
        omega
    rw [hz] at h ⊢
    simpa using ih (by omega)
theorem vt_mono (l : List Nat) (m k : Nat) : vt l m ≤ vt l (m + k) := by
  induction k with
  | zero => exact Nat.le_refl _
  | succ k ih =>
    have e : vt l (m + (k + 1)) = vt l (m + k) + 256 ^ (m + k) * l.getD (m + k) 0 := rfl
    rw [e]
    omega

/-- A digit made, and what goes over. -/
theorem carry_step (V T W over d : Nat) (hT : T + W * over = V) : T + W * ((over + d) % 256) + W * 256 * ((over + d) / 256) = V + W * d := by
  have h := Nat.div_add_mod (over + d) 256
  have h2 : W * (over + d) = W * (256 * ((over + d) / 256)) + W * ((over + d) % 256) := by rw [← Nat.mul_add, h]
  have h3 : W * 256 * ((over + d) / 256) = W * (256 * ((over + d) / 256)) := Nat.mul_assoc _ _ _
  have h4 : W * (over + d) = W * over + W * d := Nat.mul_add _ _ _
  omega

/-- The modulus. -/
def pP : Nat := 1361129467683753853853498429727072845819
theorem pP_is : pP = 2 ^ 130 - 5 := by decide
/-- What stands from 2^130 on is taken five times. -/
def fold5 (v : Nat) : Nat := v % 2 ^ 130 + 5 * (v / 2 ^ 130)
theorem fold5_mod (v : Nat) : fold5 v % pP = v % pP := by
  have h := Nat.div_add_mod v (2 ^ 130)
  have e : v = fold5 v + pP * (v / 2 ^ 130) := by
    rw [fold5, pP]
    omega
  rw [e, Nat.add_mul_mod_self_left, ← e]
theorem fold5_four (v : Nat) (hv : v < 2 ^ 142 * 2 ^ 142) : fold5 (fold5 (fold5 (fold5 v))) < 2 ^ 130 := by
  have h1 : fold5 v < 2 ^ 158 := by rw [fold5]; omega
  have h2 : fold5 (fold5 v) < 2 ^ 130 + 2 ^ 31 := by rw [fold5]; omega
  generalize fold5 (fold5 v) = x at *
  have h3 : fold5 x < 2 ^ 130 := by rw [fold5]; omega
  rw [fold5]
  omega
def foldN (v : Nat) : Nat → Nat
  | 0 => v
  | n + 1 => fold5 (foldN v n)
theorem foldN_mod (v n : Nat) : foldN v n % pP = v % pP := by
  induction n with
  | zero => rfl
  | succ n ih => rw [foldN, fold5_mod, ih]
theorem foldN_four (v : Nat) (hv : v < 2 ^ 142 * 2 ^ 142) : foldN v 4 < 2 ^ 130 := fold5_four v hv
theorem mul_step (a b x y V A B : Nat) (W : Nat) (hW : W = A * B) : V * y + A * x * (a + B * b) = (V * y + A * x * a) + W * (x * b) := by
  subst hW
  rw [Nat.mul_add, ← Nat.add_assoc]
  congr 1
  rw [Nat.mul_assoc, Nat.mul_assoc, Nat.mul_left_comm x B b]

/-- The number of bytes. -/
def leNat (l : List UInt8) : Nat := vt (l.map (·.toNat)) l.length
/-- A block's number, with a byte 1 behind. -/
def chunkN (c : List UInt8) : Nat := leNat c + 256 ^ c.length
/-- Behind so many blocks. -/
def accN (r : Nat) (msg : List UInt8) : Nat → Nat
  | 0 => 0
  | k + 1 => (accN r msg k + chunkN ((msg.drop (16 * k)).take 16)) * r % pP
def clampL (l : List UInt8) : List UInt8 :=
  if l.length < 16 then [] else [l.getD 0 0, l.getD 1 0, l.getD 2 0, l.getD 3 0 % 16, l.getD 4 0 - l.getD 4 0 % 4, l.getD 5 0, l.getD 6 0, l.getD 7 0 % 16, l.getD 8 0 - l.getD 8 0 % 4, l.getD 9 0, l.getD 10 0, l.getD 11 0 % 16, l.getD 12 0 - l.getD 12 0 % 4, l.getD 13 0, l.getD 14 0, l.getD 15 0 % 16]
def tagN (key msg : List UInt8) : Nat := accN (leNat (clampL key)) msg ((msg.length + 15) / 16) + leNat ((key.drop 16).take 16)
/-- The tag: the lowest 16 digits. -/
def tagL (key msg : List UInt8) : List UInt8 := (List.range 16).map fun i => UInt8.ofNat (tagN key msg / 256 ^ i)
theorem tagL_length (key msg : List UInt8) : (tagL key msg).length = 16 := by simp [tagL]
theorem clampL_length (l : List UInt8) (h : 16 ≤ l.length) : (clampL l).length = 16 := by rw [clampL, if_neg (by omega)]; rfl
theorem accN_lt (r : Nat) (msg : List UInt8) (k : Nat) : accN r msg k < pP := by
  cases k with
  | zero => exact (show 0 < pP by decide)
  | succ k => exact Nat.mod_lt _ (by decide)
end Go.Proofs.YtmnhpkdldeifgaaGreatDoor

namespace Go.Proofs.YtmnhpkdldeifgaaGreatDoor
set_option maxRecDepth 100000
open Go.RowKit

/-- Numbers as cells. -/
def iv (l : List Nat) : List Value := l.map fun (n : Nat) => Value.int .i64 (n : Int)
theorem iv_length (l : List Nat) : (iv l).length = l.length := by simp [iv]
theorem iv_at (l : List Nat) (i x : Nat) (h : l[i]? = some x) : (iv l)[i]? = some (.int .i64 (x : Int)) := by simp [iv, h]
theorem iv_set (l : List Nat) (i x : Nat) : (iv l).set i (.int .i64 (x : Int)) = iv (l.set i x) := by simp [iv, List.map_set]
theorem int_info : (Tryz.prog.info? 3).map (fun i => (i.zero, i.size, i.bytes)) = some (some (.int .i64 0), 1, 8) := by kernel_rfl
/-- The slice is just these numbers, in a row of one's own. -/
abbrev Ints (w : World) (B : Nat) (v : Value) (n : Nat) (l : List Nat) : Prop := w.ownsRow B 3 1 v n (iv l)
theorem Ints.len {w : World} {B n : Nat} {v : Value} {l : List Nat} (h : Ints w B v n l) : l.length = n := by
  have := h.1
  simpa [iv] using this
theorem Ints.form {w : World} {B n : Nat} {v : Value} {l : List Nat} (h : Ints w B v n l) (hn : 0 < n) : ∃ g cap, v = .slice (some ⟨g, 0, none⟩) n cap ∧ n ≤ cap := by
  rcases h.2 with ⟨-, h0⟩ | ⟨g, cap, cur, rfl, _, _, hc, _⟩
  · omega
  · exact ⟨g, cap, rfl, hc⟩
theorem Ints.cell {w : World} {B n g cap : Nat} {l : List Nat} (h : Ints w B (.slice (some ⟨g, 0, none⟩) n cap) n l) (i x : Nat) (hx : l[i]? = some x) : w.cell? ⟨g, i, none⟩ = some (.int .i64 (x : Int)) := by
  have hi : i < n := by rw [← h.len]; exact (List.getElem?_eq_some_iff.1 hx).1
  exact (h.cellAt i (by omega)).trans (iv_at _ _ _ hx)
theorem Ints.first {w : World} {B n g cap : Nat} {l : List Nat} (h : Ints w B (.slice (some ⟨g, 0, none⟩) n cap) n l) (m : Nat) (hm : m ≤ n) : Ints w B (.slice (some ⟨g, 0, none⟩) m cap) m (l.take m) := by
  have hl := h.len
  rcases h.2 with ⟨h1, -⟩ | ⟨g', cap', cur, h1, h2, h3, h4, h5, h6, h7⟩
  · simp at h1
  · injection h1 with e1 _ e2
    injection e1 with e1
    injection e1 with e1
    subst e1 e2
    refine ⟨by simp [iv]; omega, .inr ⟨g, cap, cur, rfl, h2, h3, by omega, h5, h6, ?_⟩⟩
    have e : iv (l.take m) = (iv l).take m := by simp [iv]
    rw [e, ← h7, List.take_take]
    congr 1
    omega
theorem ints_empty (w : World) : Ints (w.alloc (.cells #[] 3)) w.heap.size (.slice (some ⟨w.heap.size, 0, none⟩) 0 0) 0 [] :=
  ⟨rfl, .inr ⟨w.heap.size, 0, #[], rfl, Nat.le_refl _, heap_alloc_new w _, Nat.le_refl _, by decide, rfl, rfl⟩⟩
theorem store_in (w : World) (g i : Nat) (old : Value) (hc : w.cell? ⟨g, i, none⟩ = some old) (hf : w.frozen? ⟨g, i, none⟩ = false) (z : Int) : (storeCells ⟨g, i, none⟩ [.int .i64 z]).run Tryz.prog w = .ok () (w.setCell ⟨g, i, none⟩ (.int .i64 z)) := by
  go_simp
theorem made_ints (n : Nat) : (madeCells #[Value.int .i64 0] n).toList = iv (List.replicate n 0) := by
  rw [toList_madeCells_one]
  simp [iv]

section
variable {ops : Array Oper} {rest : List Oper} {o : Oper} {a : Act} {w : World} {Q : Exit → Act → World → Prop}
/-- Numbers 0 are made. -/
theorem wpList_make_ints (hgd : o.guard = none) (l c : Operand) (ho : o.op = .makeSlice 107 l c) (n : Nat) (hl : a.eval l = .int .i64 (n : Int)) (hc : a.eval c = .int .i64 (n : Int)) (hn : n ≤ 10000000)
    (h : ∀ w', Ints w' w.heap.size (.slice (some ⟨w.heap.size, 0, none⟩) n n) n (List.replicate n 0) → Below w.heap.size w w' → w.heap.size < w'.heap.size → wpList Tryz.prog ops Q rest (a.put o.dst (.slice (some ⟨w.heap.size, 0, none⟩) n n)) w') : wpList Tryz.prog ops Q (o :: rest) a w := by
  refine wpList_plain hgd fun K hK => ?_
  obtain ⟨i0, hi0, hz0, hz1, hz2⟩ := info_parts int_info
  obtain ⟨w', hrun, r1, r2⟩ := run_make_full (P := Tryz.prog) w w.heap.size 107 3 i0 (.int .i64 0) 1 Tryz.underlying107 hi0 hz0 hz1 .i64 .i64 n (by rw [hz2]; omega) (by simp only [maxLen]; omega) (Nat.le_refl _)
  have e : (madeCells (Value.int .i64 0).cells (n * 1)).toList = iv (List.replicate n 0) := by rw [Nat.mul_one]; exact made_ints n
  rw [e] at r1
  have hb : Below w.heap.size w w' := (Below.refl w.heap.size w).grown r2 (Nat.le_refl _) (fun k hk => by cases hk)
  have q := hK _ _ (h w' r1 hb (r1.lt _ rfl).2)
  unfold Oper.wp execOp
  simp [ho, hl, hc, hrun, Result.andThen, Oper.upon]
  exact q
/-- A number stored into a row of one's own. -/
theorem wpList_put_int (hgd : o.guard = none) (x y : Operand) (ho : o.op = .store 3 x y)
    (base g i n cap : Nat) (hx : a.eval x = .pointer (some ⟨g, i, none⟩)) (z : Nat) (hy : a.eval y = .int .i64 (z : Int)) (l : List Nat) (hown : Ints w base (.slice (some ⟨g, 0, none⟩) n cap) n l) (hi : i < n)
    (h : ∀ w', w.grownBy w' (some g) → Ints w' base (.slice (some ⟨g, 0, none⟩) n cap) n (l.set i z) → w'.heap.size = w.heap.size → wpList Tryz.prog ops Q rest (a.put o.dst undef) w') : wpList Tryz.prog ops Q (o :: rest) a w := by
  refine wpList_plain hgd fun K hK => ?_
  have hl := hown.len
  have c1 : w.cell? ⟨g, i, none⟩ = some (.int .i64 ((l[i]'(by omega) : Nat) : Int)) := hown.cell i _ (List.getElem?_eq_getElem (by omega))
  have q := (hown.stored i (.int .i64 (z : Int))).1
  rw [iv_set] at q
  have hh := hK _ _ (h _ (grown_store w g i (.int .i64 (z : Int))) q (by simp))
  have hz : (sizeOf 3).run Tryz.prog w = .ok 1 w := by kernel_rfl
  unfold Oper.wp execOp
  have hc : (Value.int .i64 (z : Int)).cells = #[.int .i64 (z : Int)] := rfl
  simp only [ho, hx, hy, Instr.storeAt, Instr.sureAddr, storeVar, hc, Sem.run_bind, Sem.run_pure, Result.andThen_ok, hz, List.size_toArray, List.length_cons, List.length_nil, ne_eq, not_true_eq_false, if_false, store_in w g i _ c1 (hown.frozenAt i), Oper.upon]
  exact hh
/-- Numbers behind numbers of one's own. -/
theorem wpList_append_ints (hgd : o.guard = none) (s x : Operand) (ho : o.op = .call { callee := .builtin .append, args := #[s, x], argTypes := #[107, 107] })
    (base : Nat) (v : Value) (n : Nat) (l : List Nat) (hv : a.eval s = v) (hown : Ints w base v n l) (B g m cap : Nat) (l' : List Nat) (hx : a.eval x = .slice (some ⟨g, 0, none⟩) m cap) (hs : Ints w B (.slice (some ⟨g, 0, none⟩) m cap) m l') (hlen : n + m ≤ 1000000) (hbase : base ≤ w.heap.size)
    (h : ∀ v' w', Ints w' base v' (n + m) (l ++ l') → w.grownBy w' v.ownBlock → wpList Tryz.prog ops Q rest (a.put o.dst v') w') : wpList Tryz.prog ops Q (o :: rest) a w := by
  refine wpList_plain hgd fun K hK => ?_
  have hl := hs.len
  obtain ⟨i0, hi0, hz0, hz1, hz2⟩ := info_parts int_info
  obtain ⟨v', w', hr, h2, h3, _⟩ := run_append_own (P := Tryz.prog) w base 107 o.type 3 i0 (.int .i64 0) 1 8 Tryz.underlying107 hi0 hz0 hz1 hz2 rfl (by decide) v n (iv l) hown ⟨g, 0, none⟩ m cap (iv l') (by simp [iv, hl]) (fun j u hu => by
      have ha : (⟨g, 0, none⟩ : Addr).add j = ⟨g, j, none⟩ := by unfold Addr.add; split <;> simp_all
      rw [ha]
      simp only [iv, List.getElem?_map, Option.map_eq_some_iff] at hu
      obtain ⟨x, hx, rfl⟩ := hu
      exact hs.cell j x hx) (fun u hu => by
      simp only [iv, List.mem_map] at hu
      obtain ⟨x, _, rfl⟩ := hu
      rfl) (by simp only [maxLen]; omega) (by omega) hbase
  have e : iv l ++ iv l' = iv (l ++ l') := by simp [iv]
  rw [e] at h2
  have q := hK _ _ (h v' w' h2 h3)
  unfold Oper.wp execOp
  simp only [ho, resolve, invoke, builtin, Sem.run_bind, Sem.run_pure, Result.andThen_ok, List.map_toArray, List.map_cons, List.map_nil, hv, hx, hr]
  exact q
end
end Go.Proofs.YtmnhpkdldeifgaaGreatDoor

namespace Go.Proofs.YtmnhpkdldeifgaaGreatDoor
set_option maxRecDepth 100000
open Go.RowKit

theorem store_byte_at (w : World) (g i : Nat) (old : Value) (hc : w.cell? ⟨g, i, none⟩ = some old) (hf : w.frozen? ⟨g, i, none⟩ = false) (c : UInt8) : (storeCells ⟨g, i, none⟩ [.int .u8 (c.toNat : Int)]).run Tryz.prog w = .ok () (w.setCell ⟨g, i, none⟩ (.int .u8 (c.toNat : Int))) := by
  go_simp

section
variable {ops : Array Oper} {rest : List Oper} {o : Oper} {a : Act} {w : World} {Q : Exit → Act → World → Prop}
/-- Zero bytes are made: a row of one's own. -/
theorem wpList_make_row (hgd : o.guard = none) (l c : Operand) (ho : o.op = .makeSlice 25 l c) (n : Nat) (hl : a.eval l = .int .i64 (n : Int)) (hc : a.eval c = .int .i64 (n : Int)) (hn : n ≤ 10000000)
    (h : ∀ w', w'.ownsRow w.heap.size 5 1 (.slice (some ⟨w.heap.size, 0, none⟩) n n) n (bv (List.replicate n 0)) → Below w.heap.size w w' → w.heap.size < w'.heap.size → wpList Tryz.prog ops Q rest (a.put o.dst (.slice (some ⟨w.heap.size, 0, none⟩) n n)) w') : wpList Tryz.prog ops Q (o :: rest) a w := by
  refine wpList_plain hgd fun K hK => ?_
  obtain ⟨i0, hi0, hz0, hz1, hz2⟩ := info_parts byte_info
  obtain ⟨w', hrun, r1, r2⟩ := run_make_full (P := Tryz.prog) w w.heap.size 25 5 i0 (.int .u8 0) 1 Tryz.underlying25 hi0 hz0 hz1 .i64 .i64 n (by rw [hz2]; omega) (by simp only [maxLen]; omega) (Nat.le_refl _)
  have e : (madeCells (Value.int .u8 0).cells (n * 1)).toList = bv (List.replicate n 0) := by rw [Nat.mul_one]; exact made_bytes n
  rw [e] at r1
  have hb : Below w.heap.size w w' := (Below.refl w.heap.size w).grown r2 (Nat.le_refl _) (fun k hk => by cases hk)
  have q := hK _ _ (h w' r1 hb (r1.lt _ rfl).2)
  unfold Oper.wp execOp
  simp [ho, hl, hc, hrun, Result.andThen, Oper.upon]
  exact q
/-- A byte stored into a row of one's own. -/
theorem wpList_put_own (hgd : o.guard = none) (x y : Operand) (ho : o.op = .store 5 x y)
    (base g i n cap : Nat) (hx : a.eval x = .pointer (some ⟨g, i, none⟩)) (c : UInt8) (hy : a.eval y = .int .u8 (c.toNat : Int)) (l : List UInt8) (hl : l.length = n) (hown : w.ownsRow base 5 1 (.slice (some ⟨g, 0, none⟩) n cap) n (bv l)) (hi : i < n)
    (h : ∀ w', w.grownBy w' (some g) → w'.ownsRow base 5 1 (.slice (some ⟨g, 0, none⟩) n cap) n (bv (l.set i c)) → w'.heap.size = w.heap.size → wpList Tryz.prog ops Q rest (a.put o.dst undef) w') : wpList Tryz.prog ops Q (o :: rest) a w := by
  refine wpList_plain hgd fun K hK => ?_
  have c1 : w.cell? ⟨g, i, none⟩ = some (.int .u8 ((l[i]'(by omega)).toNat : Int)) := (hown.cellAt i (by omega)).trans (by simp [bv, List.getElem?_eq_getElem (show i < l.length by omega)])
  have q := (hown.stored i (.int .u8 (c.toNat : Int))).1
  rw [show (bv l).set i (.int .u8 (c.toNat : Int)) = bv (l.set i c) by simp [bv, List.map_set]] at q
  have hh := hK _ _ (h _ (grown_store w g i (.int .u8 (c.toNat : Int))) q (by simp))
  have hz : (sizeOf 5).run Tryz.prog w = .ok 1 w := by kernel_rfl
  unfold Oper.wp execOp
  have hc : (Value.int .u8 (c.toNat : Int)).cells = #[.int .u8 (c.toNat : Int)] := rfl
  simp only [ho, hx, hy, Instr.storeAt, Instr.sureAddr, storeVar, hc, Sem.run_bind, Sem.run_pure, Result.andThen_ok, hz, List.size_toArray, List.length_cons, List.length_nil, ne_eq, not_true_eq_false, if_false, store_byte_at w g i _ c1 (hown.frozenAt i) c, Oper.upon]
  exact hh
end
end Go.Proofs.YtmnhpkdldeifgaaGreatDoor
