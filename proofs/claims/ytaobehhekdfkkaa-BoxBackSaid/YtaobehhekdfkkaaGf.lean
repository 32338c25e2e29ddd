/- Block and Xor of package cipher, and the document's, for keys, nonces and messages of any size. Plain mathematics of package poly: numbers of digits by 256, what Clamp clears, the tag. It speaks of no program. Rows of numbers of type int that a call makes for itself: made, appended to, stored into, read. Rows of bytes that a call makes for itself, and bytes stored into them. What the document's Clamp and digits of layer 7 answer. -/
import Derived.Test.YtaobehhekdfkkaaGe
import Derived.Test.YtaobehhekdfkkaaGa
import Derived.Test.YtaobehhekdfkkaaGb
import Derived.IntWalk
import Derived.Deep.DeepCutAuto
import Derived.Deep.LoopGhost
import Derived.ChangeAlike
namespace Go.Proofs.Ytaobehhekdfkkaa
open Go.RowKit

def blA (n0 n1 : Nat) (key nonce : List UInt8) (c : UInt32) : List UInt8 := if n0 ≠ 32 ∨ n1 ≠ 12 then [] else blockC key nonce c
def blC (n0 n1 : Nat) : Int := if n0 ≠ 32 ∨ n1 ≠ 12 then 2 else 0
def xoA (n0 n1 n : Nat) (key nonce : List UInt8) (c : UInt32) (msg : List UInt8) : List UInt8 := if n0 ≠ 32 ∨ n1 ≠ 12 then [] else if 4294967296 - c.toNat < (n + 63) / 64 then [] else xorC key nonce c msg
def xoC (n0 n1 n : Nat) (c : UInt32) : Int := if n0 ≠ 32 ∨ n1 ≠ 12 then 2 else if 4294967296 - c.toNat < (n + 63) / 64 then 3 else 0

theorem CipherIs.blockAll (H : CipherIs) (A0 A1 : Option Addr) (n0 n1 cap0 cap1 : Nat) (key nonce : List UInt8) (c : UInt32) (w : World) (h0 : BytesAt w (.slice A0 n0 cap0) key) (h1 : BytesAt w (.slice A1 n1 cap1) nonce) :
    Calls Try.prog 25 #[.slice A0 n0 cap0, .slice A1 n1 cap1, wd c] w fun e w' => ∃ v', e = .returned (.tuple #[v', .int .i64 (blC n0 n1)]) ∧ BytesAt w' v' (blA n0 n1 key nonce c) ∧ Below w.heap.size w w' := by
  by_cases h : n0 ≠ 32 ∨ n1 ≠ 12
  · rw [blA, blC, if_pos h, if_pos h]
    exact (H.blockBad A0 A1 n0 n1 cap0 cap1 c h w).mono fun _ _ ⟨he, hb⟩ => ⟨_, he, BytesAt.nil _, hb⟩
  · rw [blA, blC, if_neg h, if_neg h]
    obtain rfl : n0 = 32 := by omega
    obtain rfl : n1 = 12 := by omega
    exact H.block A0 A1 cap0 cap1 key nonce c w h0 h1
theorem refBlock_all (A0 A1 : Option Addr) (n0 n1 cap0 cap1 : Nat) (key nonce : List UInt8) (c : UInt32) (w : World) (h0 : BytesAt w (.slice A0 n0 cap0) key) (h1 : BytesAt w (.slice A1 n1 cap1) nonce) :
    Calls Try.prog 36 #[.slice A0 n0 cap0, .slice A1 n1 cap1, wd c] w fun e w' => ∃ v', e = .returned (.tuple #[v', .int .i64 (blC n0 n1)]) ∧ BytesAt w' v' (blA n0 n1 key nonce c) ∧ Below w.heap.size w w' := by
  by_cases h : n0 ≠ 32 ∨ n1 ≠ 12
  · rw [blA, blC, if_pos h, if_pos h]
    exact (refBlock_bad A0 A1 n0 n1 cap0 cap1 (wd c) h w).mono fun _ _ ⟨he, hb⟩ => ⟨_, he, BytesAt.nil _, hb⟩
  · rw [blA, blC, if_neg h, if_neg h]
    obtain rfl : n0 = 32 := by omega
    obtain rfl : n1 = 12 := by omega
    refine (refBlock_any A0 A1 cap0 cap1 key nonce c w h0 h1).mono fun _ _ ⟨v', he, ho, hb⟩ => ⟨v', he, ?_, hb⟩
    exact BytesAt.of_own (by rw [blockC_length]; exact ho)
theorem CipherIs.xorAll (H : CipherIs) (A0 A1 A3 : Option Addr) (n0 n1 n cap0 cap1 cap3 : Nat) (key nonce msg : List UInt8) (c : UInt32) (hn : n ≤ 1000000) (w : World) (h0 : BytesAt w (.slice A0 n0 cap0) key) (h1 : BytesAt w (.slice A1 n1 cap1) nonce) (h3 : BytesAt w (.slice A3 n cap3) msg) :
    Calls Try.prog 13 #[.slice A0 n0 cap0, .slice A1 n1 cap1, wd c, .slice A3 n cap3] w fun e w' => ∃ v', e = .returned (.tuple #[v', .int .i64 (xoC n0 n1 n c)]) ∧ BytesAt w' v' (xoA n0 n1 n key nonce c msg) ∧ Below w.heap.size w w' := by
  by_cases h : n0 ≠ 32 ∨ n1 ≠ 12
  · rw [xoA, xoC, if_pos h, if_pos h]
    exact (H.xorBad A0 A1 A3 n0 n1 n cap0 cap1 cap3 c h hn w).mono fun _ _ ⟨he, hb⟩ => ⟨_, he, BytesAt.nil _, hb⟩
  · rw [xoA, xoC, if_neg h, if_neg h]
    obtain rfl : n0 = 32 := by omega
    obtain rfl : n1 = 12 := by omega
    by_cases hb : 4294967296 - c.toNat < (n + 63) / 64
    · rw [if_pos hb, if_pos hb]
      exact (H.xorBig A0 A1 A3 n cap0 cap1 cap3 c hb hn w).mono fun _ _ ⟨he, hb⟩ => ⟨_, he, BytesAt.nil _, hb⟩
    · rw [if_neg hb, if_neg hb]
      exact H.xor A0 A1 A3 n cap0 cap1 cap3 key nonce msg c (by omega) hn w h0 h1 h3
theorem refXor_all (A0 A1 A3 : Option Addr) (n0 n1 n cap0 cap1 cap3 : Nat) (key nonce msg : List UInt8) (c : UInt32) (hn : n ≤ 1000000) (w : World) (h0 : BytesAt w (.slice A0 n0 cap0) key) (h1 : BytesAt w (.slice A1 n1 cap1) nonce) (h3 : BytesAt w (.slice A3 n cap3) msg) :
    Calls Try.prog 17 #[.slice A0 n0 cap0, .slice A1 n1 cap1, wd c, .slice A3 n cap3] w fun e w' => ∃ v', e = .returned (.tuple #[v', .int .i64 (xoC n0 n1 n c)]) ∧ BytesAt w' v' (xoA n0 n1 n key nonce c msg) ∧ Below w.heap.size w w' := by
  by_cases h : n0 ≠ 32 ∨ n1 ≠ 12
  · rw [xoA, xoC, if_pos h, if_pos h]
    exact (refXor_bad A0 A1 n0 n1 cap0 cap1 (wd c) _ h w).mono fun _ _ ⟨he, hb⟩ => ⟨_, he, BytesAt.nil _, hb⟩
  · rw [xoA, xoC, if_neg h, if_neg h]
    obtain rfl : n0 = 32 := by omega
    obtain rfl : n1 = 12 := by omega
    by_cases hb : 4294967296 - c.toNat < (n + 63) / 64
    · rw [if_pos hb, if_pos hb]
      exact (refXor_big A0 A1 A3 n cap0 cap1 cap3 c hb hn w).mono fun _ _ ⟨he, hb⟩ => ⟨_, he, BytesAt.nil _, hb⟩
    · rw [if_neg hb, if_neg hb]
      exact refXor_any A0 A1 A3 n cap0 cap1 cap3 key nonce msg c (by omega) hn w h0 h1 h3
end Go.Proofs.Ytaobehhekdfkkaa

namespace Go.Proofs.Ytaobehhekdfkkaa

/-- What the first m digits stand for. -/
def vt (l : List Nat) : Nat → Nat
  | 0 => 0
  | i + 1 => vt l i + 256 ^ i * l.getD i 0
theorem vt_ext (l l' : List Nat) (m : Nat) (h : ∀ i, i < m → l.getD i 0 = l'.getD i 0) : vt l m = vt l' m := by
  induction m with
  | zero => rfl
  | succ m ih => rw [vt, vt, ih fun i hi => h i (by omega), h m (by omega)]
theorem getD_set (l : List Nat) (i j x : Nat) (hi : i < l.length) : (l.set i x).getD j 0 = if i = j then x else l.getD j 0 := by
  simp only [List.getD, List.getElem?_set]
  by_cases h : i = j
  · subst h; simp [hi]
  · simp [h]
theorem vt_set (l : List Nat) (i x m : Nat) (hl : i < l.length) (hm : i < m) : vt (l.set i x) m + 256 ^ i * l.getD i 0 = vt l m + 256 ^ i * x := by
  induction m with
  | zero => omega
  | succ m ih =>
    rw [vt, vt, getD_set _ _ _ _ hl]
    by_cases h : i = m
    · subst h
      have e : vt (l.set i x) i = vt l i := vt_ext _ _ _ fun j hj => by rw [getD_set _ _ _ _ hl, if_neg (by omega)]
      rw [if_pos rfl, e]
      omega
    · have := ih (by omega)
      rw [if_neg h]
      omega
theorem vt_set_out (l : List Nat) (i x m : Nat) (hl : i < l.length) (hm : m ≤ i) : vt (l.set i x) m = vt l m :=
  vt_ext _ _ _ fun j hj => by rw [getD_set _ _ _ _ hl, if_neg (by omega)]
theorem vt_le (l : List Nat) (D m : Nat) (h : ∀ i, l.getD i 0 ≤ D) : vt l m ≤ D * 256 ^ m := by
  induction m with
  | zero => simp [vt]
  | succ m ih =>
    have h1 := Nat.mul_le_mul_left (256 ^ m) (h m)
    have e : D * 256 ^ (m + 1) = 256 * (D * 256 ^ m) := by rw [Nat.pow_succ, Nat.mul_comm (256 ^ m), ← Nat.mul_assoc, ← Nat.mul_assoc, Nat.mul_comm D 256]
    have e2 : 256 ^ m * D = D * 256 ^ m := Nat.mul_comm _ _
    rw [vt]
    omega
theorem vt_lt (l : List Nat) (m : Nat) (h : ∀ i, l.getD i 0 < 256) : vt l m < 256 ^ m := by
  induction m with
  | zero => simp [vt]
  | succ m ih =>
    have h1 := Nat.mul_le_mul_left (256 ^ m) (show l.getD m 0 ≤ 255 by have := h m; omega)
    rw [vt, Nat.pow_succ]
    omega
theorem vt_zeros (l : List Nat) (m k : Nat) (h : ∀ i, m ≤ i → l.getD i 0 = 0) : vt l (m + k) = vt l m := by
  induction k with
  | zero => rfl
  | succ k ih =>
    show vt l (m + k + 1) = _
    rw [vt, ih, h (m + k) (by omega)]
    simp
/-- All digits behind are 0, if it is small. -/
theorem vt_small (l : List Nat) (m k : Nat) (h : vt l (m + k) < 256 ^ m) : vt l m = vt l (m + k) := by
  induction k with
  | zero => rfl
  | succ k ih =>
    have e : vt l (m + (k + 1)) = vt l (m + k) + 256 ^ (m + k) * l.getD (m + k) 0 := rfl
    rw [e] at h ⊢
    have hp : 256 ^ m ≤ 256 ^ (m + k) := Nat.pow_le_pow_right (by decide) (by omega)
    have hz : l.getD (m + k) 0 = 0 := by
      rcases Nat.eq_zero_or_pos (l.getD (m + k) 0) with h0 | h0
      · exact h0
      · have := Nat.mul_le_mul_left (256 ^ (m + k)) h0
        omega
    rw [hz] at h ⊢
    simpa using ih (by omega)
theorem vt_mono (l : List Nat) (m k : Nat) : vt l m ≤ vt l (m + k) := by
  induction k with
  | zero => exact Nat.le_refl _
  | succ k ih =>
    have e : vt l (m + (k + 1)) = vt l (m + k) + 256 ^ (m + k) * l.getD (m + k) 0 := rfl
    rw [e]
    omega

/-- A digit made, and what goes over. -/
theorem carry_step (V T W over d : Nat) (hT : T + W * over = V) : T + W * ((over + d) % 256) + W * 256 * ((over + d) / 256) = V + W * d := by
  have h := Nat.div_add_mod (over + d) 256
  have h2 : W * (over + d) = W * (256 * ((over + d) / 256)) + W * ((over + d) % 256) := by rw [← Nat.mul_add, h]
  have h3 : W * 256 * ((over + d) / 256) = W * (256 * ((over + d) / 256)) := Nat.mul_assoc _ _ _
  have h4 : W * (over + d) = W * over + W * d := Nat.mul_add _ _ _
  omega

/-- The modulus. -/
def pP : Nat := 1361129467683753853853498429727072845819
theorem pP_is : pP = 2 ^ 130 - 5 := by decide
/-- What stands from 2^130 on is taken five times. -/
def fold5 (v : Nat) : Nat := v % 2 ^ 130 + 5 * (v / 2 ^ 130)
theorem fold5_mod (v : Nat) : fold5 v % pP = v % pP := by
  have h := Nat.div_add_mod v (2 ^ 130)
  have e : v = fold5 v + pP * (v / 2 ^ 130) := by
    rw [fold5, pP]
    omega
  rw [e, Nat.add_mul_mod_self_left, ← e]
theorem fold5_four (v : Nat) (hv : v < 2 ^ 142 * 2 ^ 142) : fold5 (fold5 (fold5 (fold5 v))) < 2 ^ 130 := by
  have h1 : fold5 v < 2 ^ 158 := by rw [fold5]; omega
  have h2 : fold5 (fold5 v) < 2 ^ 130 + 2 ^ 31 := by rw [fold5]; omega
  generalize fold5 (fold5 v) = x at *
  have h3 : fold5 x < 2 ^ 130 := by rw [fold5]; omega
  rw [fold5]
  omega
def foldN (v : Nat) : Nat → Nat
  | 0 => v
  | n + 1 => fold5 (foldN v n)
theorem foldN_mod (v n : Nat) : foldN v n % pP = v % pP := by
  induction n with
  | zero => rfl
  | succ n ih => rw [foldN, fold5_mod, ih]
theorem foldN_four (v : Nat) (hv : v < 2 ^ 142 * 2 ^ 142) : foldN v 4 < 2 ^ 130 := fold5_four v hv
theorem mul_step (a b x y V A B : Nat) (W : Nat) (hW : W = A * B) : V * y + A * x * (a + B * b) = (V * y + A * x * a) + W * (x * b) := by
  subst hW
  rw [Nat.mul_add, ← Nat.add_assoc]
  congr 1
  rw [Nat.mul_assoc, Nat.mul_assoc, Nat.mul_left_comm x B b]

/-- The number of bytes. -/
def leNat (l : List UInt8) : Nat := vt (l.map (·.toNat)) l.length
/-- A block's number, with a byte 1 behind. -/
def chunkN (c : List UInt8) : Nat := leNat c + 256 ^ c.length
/-- Behind so many blocks. -/
def accN (r : Nat) (msg : List UInt8) : Nat → Nat
  | 0 => 0
  | k + 1 => (accN r msg k + chunkN ((msg.drop (16 * k)).take 16)) * r % pP
def clampL (l : List UInt8) : List UInt8 :=
  if l.length < 16 then [] else [l.getD 0 0, l.getD 1 0, l.getD 2 0, l.getD 3 0 % 16, l.getD 4 0 - l.getD 4 0 % 4, l.getD 5 0, l.getD 6 0, l.getD 7 0 % 16, l.getD 8 0 - l.getD 8 0 % 4, l.getD 9 0, l.getD 10 0, l.getD 11 0 % 16, l.getD 12 0 - l.getD 12 0 % 4, l.getD 13 0, l.getD 14 0, l.getD 15 0 % 16]
def tagN (key msg : List UInt8) : Nat := accN (leNat (clampL key)) msg ((msg.length + 15) / 16) + leNat ((key.drop 16).take 16)
/-- The tag: the lowest 16 digits. -/
def tagL (key msg : List UInt8) : List UInt8 := (List.range 16).map fun i => UInt8.ofNat (tagN key msg / 256 ^ i)
theorem tagL_length (key msg : List UInt8) : (tagL key msg).length = 16 := by simp [tagL]
theorem clampL_length (l : List UInt8) (h : 16 ≤ l.length) : (clampL l).length = 16 := by rw [clampL, if_neg (by omega)]; rfl
theorem accN_lt (r : Nat) (msg : List UInt8) (k : Nat) : accN r msg k < pP := by
  cases k with
  | zero => exact (show 0 < pP by decide)
  | succ k => exact Nat.mod_lt _ (by decide)
end Go.Proofs.Ytaobehhekdfkkaa

namespace Go.Proofs.Ytaobehhekdfkkaa
open Go.RowKit

/-- Numbers as cells. -/
def iv (l : List Nat) : List Value := l.map fun (n : Nat) => Value.int .i64 (n : Int)
theorem iv_length (l : List Nat) : (iv l).length = l.length := by simp [iv]
theorem iv_at (l : List Nat) (i x : Nat) (h : l[i]? = some x) : (iv l)[i]? = some (.int .i64 (x : Int)) := by simp [iv, h]
theorem iv_set (l : List Nat) (i x : Nat) : (iv l).set i (.int .i64 (x : Int)) = iv (l.set i x) := by simp [iv, List.map_set]
theorem int_info : (Try.prog.info? 3).map (fun i => (i.zero, i.size, i.bytes)) = some (some (.int .i64 0), 1, 8) := by kernel_rfl
/-- The slice is just these numbers, in a row of one's own. -/
abbrev Ints (w : World) (B : Nat) (v : Value) (n : Nat) (l : List Nat) : Prop := w.ownsRow B 3 1 v n (iv l)
theorem Ints.len {w : World} {B n : Nat} {v : Value} {l : List Nat} (h : Ints w B v n l) : l.length = n := by
  have := h.1
  simpa [iv] using this
theorem Ints.form {w : World} {B n : Nat} {v : Value} {l : List Nat} (h : Ints w B v n l) (hn : 0 < n) : ∃ g cap, v = .slice (some ⟨g, 0, none⟩) n cap ∧ n ≤ cap := by
  rcases h.2 with ⟨-, h0⟩ | ⟨g, cap, cur, rfl, _, _, hc, _⟩
  · omega
  · exact ⟨g, cap, rfl, hc⟩
theorem Ints.cell {w : World} {B n g cap : Nat} {l : List Nat} (h : Ints w B (.slice (some ⟨g, 0, none⟩) n cap) n l) (i x : Nat) (hx : l[i]? = some x) : w.cell? ⟨g, i, none⟩ = some (.int .i64 (x : Int)) := by
  have hi : i < n := by rw [← h.len]; exact (List.getElem?_eq_some_iff.1 hx).1
  exact (h.cellAt i (by omega)).trans (iv_at _ _ _ hx)
theorem Ints.first {w : World} {B n g cap : Nat} {l : List Nat} (h : Ints w B (.slice (some ⟨g, 0, none⟩) n cap) n l) (m : Nat) (hm : m ≤ n) : Ints w B (.slice (some ⟨g, 0, none⟩) m cap) m (l.take m) := by
  have hl := h.len
  rcases h.2 with ⟨h1, -⟩ | ⟨g', cap', cur, h1, h2, h3, h4, h5, h6, h7⟩
  · simp at h1
  · injection h1 with e1 _ e2
    injection e1 with e1
    injection e1 with e1
    subst e1 e2
    refine ⟨by simp [iv]; omega, .inr ⟨g, cap, cur, rfl, h2, h3, by omega, h5, h6, ?_⟩⟩
    have e : iv (l.take m) = (iv l).take m := by simp [iv]
    rw [e, ← h7, List.take_take]
    congr 1
    omega
theorem ints_empty (w : World) : Ints (w.alloc (.cells #[] 3)) w.heap.size (.slice (some ⟨w.heap.size, 0, none⟩) 0 0) 0 [] :=
  ⟨rfl, .inr ⟨w.heap.size, 0, #[], rfl, Nat.le_refl _, heap_alloc_new w _, Nat.le_refl _, by decide, rfl, rfl⟩⟩
theorem store_in (w : World) (g i : Nat) (old : Value) (hc : w.cell? ⟨g, i, none⟩ = some old) (hf : w.frozen? ⟨g, i, none⟩ = false) (z : Int) : (storeCells ⟨g, i, none⟩ [.int .i64 z]).run Try.prog w = .ok () (w.setCell ⟨g, i, none⟩ (.int .i64 z)) := by
  go_simp
theorem made_ints (n : Nat) : (madeCells #[Value.int .i64 0] n).toList = iv (List.replicate n 0) := by
  rw [toList_madeCells_one]
  simp [iv]

section
variable {ops : Array Oper} {rest : List Oper} {o : Oper} {a : Act} {w : World} {Q : Exit → Act → World → Prop}
/-- Numbers 0 are made. -/
theorem wpList_make_ints (hgd : o.guard = none) (l c : Operand) (ho : o.op = .makeSlice 74 l c) (n : Nat) (hl : a.eval l = .int .i64 (n : Int)) (hc : a.eval c = .int .i64 (n : Int)) (hn : n ≤ 10000000)
    (h : ∀ w', Ints w' w.heap.size (.slice (some ⟨w.heap.size, 0, none⟩) n n) n (List.replicate n 0) → Below w.heap.size w w' → w.heap.size < w'.heap.size → wpList Try.prog ops Q rest (a.put o.dst (.slice (some ⟨w.heap.size, 0, none⟩) n n)) w') : wpList Try.prog ops Q (o :: rest) a w := by
  refine wpList_plain hgd fun K hK => ?_
  obtain ⟨i0, hi0, hz0, hz1, hz2⟩ := info_parts int_info
  obtain ⟨w', hrun, r1, r2⟩ := run_make_full (P := Try.prog) w w.heap.size 74 3 i0 (.int .i64 0) 1 Try.underlying74 hi0 hz0 hz1 .i64 .i64 n (by rw [hz2]; omega) (by simp only [maxLen]; omega) (Nat.le_refl _)
  have e : (madeCells (Value.int .i64 0).cells (n * 1)).toList = iv (List.replicate n 0) := by rw [Nat.mul_one]; exact made_ints n
  rw [e] at r1
  have hb : Below w.heap.size w w' := (Below.refl w.heap.size w).grown r2 (Nat.le_refl _) (fun k hk => by cases hk)
  have q := hK _ _ (h w' r1 hb (r1.lt _ rfl).2)
  unfold Oper.wp execOp
  simp [ho, hl, hc, hrun, Result.andThen, Oper.upon]
  exact q
/-- A number stored into a row of one's own. -/
theorem wpList_put_int (hgd : o.guard = none) (x y : Operand) (ho : o.op = .store 3 x y)
    (base g i n cap : Nat) (hx : a.eval x = .pointer (some ⟨g, i, none⟩)) (z : Nat) (hy : a.eval y = .int .i64 (z : Int)) (l : List Nat) (hown : Ints w base (.slice (some ⟨g, 0, none⟩) n cap) n l) (hi : i < n)
    (h : ∀ w', w.grownBy w' (some g) → Ints w' base (.slice (some ⟨g, 0, none⟩) n cap) n (l.set i z) → w'.heap.size = w.heap.size → wpList Try.prog ops Q rest (a.put o.dst undef) w') : wpList Try.prog ops Q (o :: rest) a w := by
  refine wpList_plain hgd fun K hK => ?_
  have hl := hown.len
  have c1 : w.cell? ⟨g, i, none⟩ = some (.int .i64 ((l[i]'(by omega) : Nat) : Int)) := hown.cell i _ (List.getElem?_eq_getElem (by omega))
  have q := (hown.stored i (.int .i64 (z : Int))).1
  rw [iv_set] at q
  have hh := hK _ _ (h _ (grown_store w g i (.int .i64 (z : Int))) q (by simp))
  have hz : (sizeOf 3).run Try.prog w = .ok 1 w := by kernel_rfl
  unfold Oper.wp execOp
  have hc : (Value.int .i64 (z : Int)).cells = #[.int .i64 (z : Int)] := rfl
  simp only [ho, hx, hy, Instr.storeAt, Instr.sureAddr, storeVar, hc, Sem.run_bind, Sem.run_pure, Result.andThen_ok, hz, List.size_toArray, List.length_cons, List.length_nil, ne_eq, not_true_eq_false, if_false, store_in w g i _ c1 (hown.frozenAt i), Oper.upon]
  exact hh
/-- Numbers behind numbers of one's own. -/
theorem wpList_append_ints (hgd : o.guard = none) (s x : Operand) (ho : o.op = .call { callee := .builtin .append, args := #[s, x], argTypes := #[74, 74] })
    (base : Nat) (v : Value) (n : Nat) (l : List Nat) (hv : a.eval s = v) (hown : Ints w base v n l) (B g m cap : Nat) (l' : List Nat) (hx : a.eval x = .slice (some ⟨g, 0, none⟩) m cap) (hs : Ints w B (.slice (some ⟨g, 0, none⟩) m cap) m l') (hlen : n + m ≤ 1000000) (hbase : base ≤ w.heap.size)
    (h : ∀ v' w', Ints w' base v' (n + m) (l ++ l') → w.grownBy w' v.ownBlock → wpList Try.prog ops Q rest (a.put o.dst v') w') : wpList Try.prog ops Q (o :: rest) a w := by
  refine wpList_plain hgd fun K hK => ?_
  have hl := hs.len
  obtain ⟨i0, hi0, hz0, hz1, hz2⟩ := info_parts int_info
  obtain ⟨v', w', hr, h2, h3, _⟩ := run_append_own (P := Try.prog) w base 74 o.type 3 i0 (.int .i64 0) 1 8 Try.underlying74 hi0 hz0 hz1 hz2 rfl (by decide) v n (iv l) hown ⟨g, 0, none⟩ m cap (iv l') (by simp [iv, hl]) (fun j u hu => by
      have ha : (⟨g, 0, none⟩ : Addr).add j = ⟨g, j, none⟩ := by unfold Addr.add; split <;> simp_all
      rw [ha]
      simp only [iv, List.getElem?_map, Option.map_eq_some_iff] at hu
      obtain ⟨x, hx, rfl⟩ := hu
      exact hs.cell j x hx) (fun u hu => by
      simp only [iv, List.mem_map] at hu
      obtain ⟨x, _, rfl⟩ := hu
      rfl) (by simp only [maxLen]; omega) (by omega) hbase
  have e : iv l ++ iv l' = iv (l ++ l') := by simp [iv]
  rw [e] at h2
  have q := hK _ _ (h v' w' h2 h3)
  unfold Oper.wp execOp
  simp only [ho, resolve, invoke, builtin, Sem.run_bind, Sem.run_pure, Result.andThen_ok, List.map_toArray, List.map_cons, List.map_nil, hv, hx, hr]
  exact q
end
end Go.Proofs.Ytaobehhekdfkkaa

namespace Go.Proofs.Ytaobehhekdfkkaa
open Go.RowKit

theorem store_byte_at (w : World) (g i : Nat) (old : Value) (hc : w.cell? ⟨g, i, none⟩ = some old) (hf : w.frozen? ⟨g, i, none⟩ = false) (c : UInt8) : (storeCells ⟨g, i, none⟩ [.int .u8 (c.toNat : Int)]).run Try.prog w = .ok () (w.setCell ⟨g, i, none⟩ (.int .u8 (c.toNat : Int))) := by
  go_simp

section
variable {ops : Array Oper} {rest : List Oper} {o : Oper} {a : Act} {w : World} {Q : Exit → Act → World → Prop}
/-- Zero bytes are made: a row of one's own. -/
theorem wpList_make_row (hgd : o.guard = none) (l c : Operand) (ho : o.op = .makeSlice 22 l c) (n : Nat) (hl : a.eval l = .int .i64 (n : Int)) (hc : a.eval c = .int .i64 (n : Int)) (hn : n ≤ 10000000)
    (h : ∀ w', w'.ownsRow w.heap.size 5 1 (.slice (some ⟨w.heap.size, 0, none⟩) n n) n (bv (List.replicate n 0)) → Below w.heap.size w w' → w.heap.size < w'.heap.size → wpList Try.prog ops Q rest (a.put o.dst (.slice (some ⟨w.heap.size, 0, none⟩) n n)) w') : wpList Try.prog ops Q (o :: rest) a w := by
  refine wpList_plain hgd fun K hK => ?_
  obtain ⟨i0, hi0, hz0, hz1, hz2⟩ := info_parts byte_info
  obtain ⟨w', hrun, r1, r2⟩ := run_make_full (P := Try.prog) w w.heap.size 22 5 i0 (.int .u8 0) 1 Try.underlying22 hi0 hz0 hz1 .i64 .i64 n (by rw [hz2]; omega) (by simp only [maxLen]; omega) (Nat.le_refl _)
  have e : (madeCells (Value.int .u8 0).cells (n * 1)).toList = bv (List.replicate n 0) := by rw [Nat.mul_one]; exact made_bytes n
  rw [e] at r1
  have hb : Below w.heap.size w w' := (Below.refl w.heap.size w).grown r2 (Nat.le_refl _) (fun k hk => by cases hk)
  have q := hK _ _ (h w' r1 hb (r1.lt _ rfl).2)
  unfold Oper.wp execOp
  simp [ho, hl, hc, hrun, Result.andThen, Oper.upon]
  exact q
/-- A byte stored into a row of one's own. -/
theorem wpList_put_own (hgd : o.guard = none) (x y : Operand) (ho : o.op = .store 5 x y)
    (base g i n cap : Nat) (hx : a.eval x = .pointer (some ⟨g, i, none⟩)) (c : UInt8) (hy : a.eval y = .int .u8 (c.toNat : Int)) (l : List UInt8) (hl : l.length = n) (hown : w.ownsRow base 5 1 (.slice (some ⟨g, 0, none⟩) n cap) n (bv l)) (hi : i < n)
    (h : ∀ w', w.grownBy w' (some g) → w'.ownsRow base 5 1 (.slice (some ⟨g, 0, none⟩) n cap) n (bv (l.set i c)) → w'.heap.size = w.heap.size → wpList Try.prog ops Q rest (a.put o.dst undef) w') : wpList Try.prog ops Q (o :: rest) a w := by
  refine wpList_plain hgd fun K hK => ?_
  have c1 : w.cell? ⟨g, i, none⟩ = some (.int .u8 ((l[i]'(by omega)).toNat : Int)) := (hown.cellAt i (by omega)).trans (by simp [bv, List.getElem?_eq_getElem (show i < l.length by omega)])
  have q := (hown.stored i (.int .u8 (c.toNat : Int))).1
  rw [show (bv l).set i (.int .u8 (c.toNat : Int)) = bv (l.set i c) by simp [bv, List.map_set]] at q
  have hh := hK _ _ (h _ (grown_store w g i (.int .u8 (c.toNat : Int))) q (by simp))
  have hz : (sizeOf 5).run Try.prog w = .ok 1 w := by kernel_rfl
  unfold Oper.wp execOp
  have hc : (Value.int .u8 (c.toNat : Int)).cells = #[.int .u8 (c.toNat : Int)] := rfl
  simp only [ho, hx, hy, Instr.storeAt, Instr.sureAddr, storeVar, hc, Sem.run_bind, Sem.run_pure, Result.andThen_ok, hz, List.size_toArray, List.length_cons, List.length_nil, ne_eq, not_true_eq_false, if_false, store_byte_at w g i _ c1 (hown.frozenAt i) c, Oper.upon]
  exact hh
end
end Go.Proofs.Ytaobehhekdfkkaa

namespace Go.Proofs.Ytaobehhekdfkkaa
open Go.RowKit

theorem rem16 (x : UInt8) : ((x.toNat : Int).tmod 16) = ((x % 16).toNat : Int) := by
  rw [Int.tmod_eq_emod_of_nonneg (by omega), UInt8.toNat_mod]
  rfl
theorem rem4 (x : UInt8) : ((x.toNat : Int).tmod 4) = ((x % 4).toNat : Int) := by
  rw [Int.tmod_eq_emod_of_nonneg (by omega), UInt8.toNat_mod]
  rfl
theorem sub4 (x : UInt8) : IntKind.u8.wrap ((x.toNat : Int) - ((x % 4).toNat : Int)) = ((x - x % 4).toNat : Int) := by
  have h4 : (x % 4).toNat = x.toNat % 4 := by rw [UInt8.toNat_mod]; rfl
  have hx := x.toNat_lt
  have hs : (x - x % 4).toNat = x.toNat - (x % 4).toNat := UInt8.toNat_sub_of_le _ _ (by rw [UInt8.le_iff_toNat_le, h4]; omega)
  rw [IntWalk.u8_in _ (by omega), hs]
  omega
theorem sub4' (x : UInt8) : IntKind.u8.wrap ((x.toNat : Int) - (x.toNat : Int) % 4) = ((x - x % 4).toNat : Int) := by
  have h := sub4 x
  rw [← rem4 x, Int.tmod_eq_emod_of_nonneg (by omega)] at h
  exact h
theorem sub4'' (x : UInt8) : IntKind.u8.wrap ((x.toNat : Int) - (x.toNat : Int).tmod 4) = ((x - x % 4).toNat : Int) := by
  have h := sub4 x
  rw [← rem4 x] at h
  exact h
theorem clampL_sets (l : List UInt8) (h : 16 ≤ l.length) (a b c d e f g : UInt8) (ha : l[3]? = some a) (hb : l[7]? = some b) (hc : l[11]? = some c) (hd : l[15]? = some d) (he : l[4]? = some e) (hf : l[8]? = some f) (hg : l[12]? = some g) :
    (((((((l.take 16).set 3 (a % 16)).set 7 (b % 16)).set 11 (c % 16)).set 15 (d % 16)).set 4 (e - e % 4)).set 8 (f - f % 4)).set 12 (g - g % 4) = clampL l := by
  have hn : ¬ l.length < 16 := by omega
  rw [clampL, if_neg hn]
  match l, h with
  | x0 :: x1 :: x2 :: x3 :: x4 :: x5 :: x6 :: x7 :: x8 :: x9 :: x10 :: x11 :: x12 :: x13 :: x14 :: x15 :: t, _ =>
    simp at ha hb hc hd he hf hg
    subst ha hb hc hd he hf hg
    rfl

set_option maxRecDepth 100000 in
set_option maxHeartbeats 2000000 in
theorem refClamp_any (A : Option Addr) (n cap : Nat) (l : List UInt8) (w : World) (h : BytesAt w (.slice A n cap) l) :
    Calls Try.prog 51 #[.slice A n cap] w fun e w' => ∃ v', e = .returned v' ∧ BytesAt w' v' (clampL l) ∧ Below w.heap.size w w' := by
  have HZ := Lib.hid h.size
  by_cases hn : n < 16
  · have d : decide ((n : Int) < 16) = true := by simp; omega
    have e : clampL l = [] := by rw [clampL, if_pos (by have := HZ.out.1; omega)]
    rw [e]
    clear e h
    go_enter Try.func51, Try.ntmps51
    go_wp2
    go_ret
    exact ⟨_, rfl, BytesAt.nil w, Below.refl _ _⟩
  · have d : decide ((n : Int) < 16) = false := by simp; omega
    have HL : Hid (16 ≤ l.length) := Lib.hid (by have := HZ.out.1; omega)
    have d2 : (16 : Int) ≤ (cap : Int) := by have := HZ.out; omega
    obtain ⟨ad, rfl, -⟩ := h.lt (by intro e; have := HL.out; rw [e] at this; simp at this)
    have h16 := Lib.hid (h.first 16 (by omega))
    have hT : Hid ((l.take 16).length = 16) := Lib.hid (by simp; have := HL.out; omega)
    have gt : ∀ i, i < 16 → ∃ x, l[i]? = some x := fun i hi => ⟨_, List.getElem?_eq_getElem (by have := HL.out; omega)⟩
    obtain ⟨ax, ha⟩ := gt 3 (by decide)
    obtain ⟨bx, hb⟩ := gt 7 (by decide)
    obtain ⟨cx, hc⟩ := gt 11 (by decide)
    obtain ⟨dx, hd⟩ := gt 15 (by decide)
    obtain ⟨ex, he⟩ := gt 4 (by decide)
    obtain ⟨fx, hf⟩ := gt 8 (by decide)
    obtain ⟨gx, hg⟩ := gt 12 (by decide)
    have HC := Lib.hid (clampL_sets l HL.out ax bx cx dx ex fx gx ha hb hc hd he hf hg)
    have Ta : Hid ((l.take 16)[3]? = some ax) := Lib.hid (by simp [ha])
    have Tb : Hid ((l.take 16)[7]? = some bx) := Lib.hid (by simp [hb])
    have Tc : Hid ((l.take 16)[11]? = some cx) := Lib.hid (by simp [hc])
    have Td : Hid ((l.take 16)[15]? = some dx) := Lib.hid (by simp [hd])
    have Te : Hid ((l.take 16)[4]? = some ex) := Lib.hid (by simp [he])
    have Tf : Hid ((l.take 16)[8]? = some fx) := Lib.hid (by simp [hf])
    have Tg : Hid ((l.take 16)[12]? = some gx) := Lib.hid (by simp [hg])
    clear gt ha hb hc hd he hf hg h hn
    generalize clampL l = CL at *
    obtain ⟨L0, hL0⟩ : ∃ L0, L0 = l.take 16 := ⟨_, rfl⟩
    rw [← hL0] at h16 hT HC Ta Tb Tc Td Te Tf Tg
    clear hL0
    go_enter Try.func51, Try.ntmps51
    go_wp2_with (with_reducible refine wpList_append_bytes rfl _ _ rfl w.heap.size _ _ _ ?hv (own_empty w) _ L0 ?hx (h16.out.below ((Below.refl _ _).alloc (Nat.le_refl _) _)) ?hlen ?hbase ?_)
    case hv => exact rfl
    case hx => exact rfl
    case hlen => rw [hT.out]; decide
    case hbase => simp
    intro v1 w1 o1 g1
    have o1 : w1.ownsRow w.heap.size 5 1 v1 16 (bv L0) := by simpa [hT.out] using o1
    have hb1 : Below w.heap.size w w1 := ((Below.refl w.heap.size w).alloc (Nat.le_refl _) (.cells #[] 5)).grown g1 (by simp) (fun k hk => ((own_empty w).lt k hk).1)
    obtain ⟨g, cq, rfl, hg0⟩ : ∃ g cq, v1 = .slice (some ⟨g, 0, none⟩) 16 cq ∧ w.heap.size ≤ g := by
      rcases o1.2 with ⟨-, h0⟩ | ⟨g, cq, cur, rfl, hg, -⟩
      · omega
      · exact ⟨g, cq, rfl, hg⟩
    have O0 := Lib.hid o1
    have B0 := Lib.hid hb1
    have HG := Lib.hid hg0
    have N0 := hT
    clear o1 hb1 g1 hg0
    have k0 : L0[3]? = some ax := by
      have q := Ta.out
      simpa using q
    have c0 : w1.cell? ⟨g, 3, none⟩ = some (.int .u8 (ax.toNat : Int)) := (O0.out.cellAt 3 (by decide)).trans (by simp only [bv, List.getElem?_map, k0, Option.map_some])
    have r0 := rem16 ax
    go_wp2_with (with_reducible refine wpList_put_own rfl _ _ rfl w.heap.size g 3 16 cq ?hx (ax % 16) ?hy L0 ?hl O0.out ?hi ?_)
    case hx => exact rfl
    case hy => exact rfl
    case hl => simp [N0.out]
    case hi => decide
    intro w2 g0 o0 z0
    have O1 := Lib.hid o0
    have B1 := Lib.hid (B0.out.grown g0 B0.out.size (fun k hk => by have := HG.out; injection hk; omega))
    clear g0 o0 z0 k0 c0 r0 O0 B0
    have k1 : (L0.set 3 (ax % 16))[7]? = some bx := by
      have q := Tb.out
      simpa using q
    have c1 : w2.cell? ⟨g, 7, none⟩ = some (.int .u8 (bx.toNat : Int)) := (O1.out.cellAt 7 (by decide)).trans (by simp only [bv, List.getElem?_map, k1, Option.map_some])
    have r1 := rem16 bx
    go_wp2_with (with_reducible refine wpList_put_own rfl _ _ rfl w.heap.size g 7 16 cq ?hx (bx % 16) ?hy (L0.set 3 (ax % 16)) ?hl O1.out ?hi ?_)
    case hx => exact rfl
    case hy => exact rfl
    case hl => simp [N0.out]
    case hi => decide
    intro w3 g1 o1 z1
    have O2 := Lib.hid o1
    have B2 := Lib.hid (B1.out.grown g1 B1.out.size (fun k hk => by have := HG.out; injection hk; omega))
    clear g1 o1 z1 k1 c1 r1 O1 B1
    have k2 : ((L0.set 3 (ax % 16)).set 7 (bx % 16))[11]? = some cx := by
      have q := Tc.out
      simpa using q
    have c2 : w3.cell? ⟨g, 11, none⟩ = some (.int .u8 (cx.toNat : Int)) := (O2.out.cellAt 11 (by decide)).trans (by simp only [bv, List.getElem?_map, k2, Option.map_some])
    have r2 := rem16 cx
    go_wp2_with (with_reducible refine wpList_put_own rfl _ _ rfl w.heap.size g 11 16 cq ?hx (cx % 16) ?hy ((L0.set 3 (ax % 16)).set 7 (bx % 16)) ?hl O2.out ?hi ?_)
    case hx => exact rfl
    case hy => exact rfl
    case hl => simp [N0.out]
    case hi => decide
    intro w4 g2 o2 z2
    have O3 := Lib.hid o2
    have B3 := Lib.hid (B2.out.grown g2 B2.out.size (fun k hk => by have := HG.out; injection hk; omega))
    clear g2 o2 z2 k2 c2 r2 O2 B2
    have k3 : (((L0.set 3 (ax % 16)).set 7 (bx % 16)).set 11 (cx % 16))[15]? = some dx := by
      have q := Td.out
      simpa using q
    have c3 : w4.cell? ⟨g, 15, none⟩ = some (.int .u8 (dx.toNat : Int)) := (O3.out.cellAt 15 (by decide)).trans (by simp only [bv, List.getElem?_map, k3, Option.map_some])
    have r3 := rem16 dx
    go_wp2_with (with_reducible refine wpList_put_own rfl _ _ rfl w.heap.size g 15 16 cq ?hx (dx % 16) ?hy (((L0.set 3 (ax % 16)).set 7 (bx % 16)).set 11 (cx % 16)) ?hl O3.out ?hi ?_)
    case hx => exact rfl
    case hy => exact rfl
    case hl => simp [N0.out]
    case hi => decide
    intro w5 g3 o3 z3
    have O4 := Lib.hid o3
    have B4 := Lib.hid (B3.out.grown g3 B3.out.size (fun k hk => by have := HG.out; injection hk; omega))
    clear g3 o3 z3 k3 c3 r3 O3 B3
    have k4 : ((((L0.set 3 (ax % 16)).set 7 (bx % 16)).set 11 (cx % 16)).set 15 (dx % 16))[4]? = some ex := by
      have q := Te.out
      simpa using q
    have c4 : w5.cell? ⟨g, 4, none⟩ = some (.int .u8 (ex.toNat : Int)) := (O4.out.cellAt 4 (by decide)).trans (by simp only [bv, List.getElem?_map, k4, Option.map_some])
    have r4 := rem4 ex
    have s4 := sub4 ex
    have C4 := Lib.hid c4
    clear c4
    go_wp2_with fail
    refine still_tail 10 (by kernel_rfl) (by kernel_rfl) fun y4 hy4 by4 => ?_
    simp only [List.take_succ_cons, List.take_zero, List.drop_succ_cons, List.drop_zero]
    have c4 := (World.cell?_of_block (a := ⟨g, 4, none⟩) (by rw [hy4])).trans C4.out
    repeat still_step
    refine wpStill_nil ?_
    have P4 := Lib.hid (kept_below O4.out by4 rfl)
    have Q4 := Lib.hid (B4.out.trans (by4.mono B4.out.size))
    refine wpList_put_own rfl _ _ rfl w.heap.size g 4 16 cq rfl (ex - ex % 4) (by first | rfl | exact congrArg (Value.int .u8) (sub4 ex) | exact congrArg (Value.int .u8) (sub4' ex) | exact congrArg (Value.int .u8) (sub4'' ex)) ((((L0.set 3 (ax % 16)).set 7 (bx % 16)).set 11 (cx % 16)).set 15 (dx % 16)) (by simp [N0.out]) P4.out (by decide) ?_
    intro w6 g4 o4 z4
    have O5 := Lib.hid o4
    have B5 := Lib.hid (Q4.out.grown g4 Q4.out.size (fun k hk => by have := HG.out; injection hk; omega))
    clear g4 o4 z4 k4 c4 r4 O4 B4 s4 C4 P4 Q4 hy4 by4
    refine wpList_nil ?_
    have k5 : (((((L0.set 3 (ax % 16)).set 7 (bx % 16)).set 11 (cx % 16)).set 15 (dx % 16)).set 4 (ex - ex % 4))[8]? = some fx := by
      have q := Tf.out
      simpa using q
    have c5 : w6.cell? ⟨g, 8, none⟩ = some (.int .u8 (fx.toNat : Int)) := (O5.out.cellAt 8 (by decide)).trans (by simp only [bv, List.getElem?_map, k5, Option.map_some])
    have r5 := rem4 fx
    have s5 := sub4 fx
    have C5 := Lib.hid c5
    clear c5
    go_wp2_with fail
    refine still_tail 10 (by kernel_rfl) (by kernel_rfl) fun y5 hy5 by5 => ?_
    simp only [List.take_succ_cons, List.take_zero, List.drop_succ_cons, List.drop_zero]
    have c5 := (World.cell?_of_block (a := ⟨g, 8, none⟩) (by rw [hy5])).trans C5.out
    repeat still_step
    refine wpStill_nil ?_
    have P5 := Lib.hid (kept_below O5.out by5 rfl)
    have Q5 := Lib.hid (B5.out.trans (by5.mono B5.out.size))
    refine wpList_put_own rfl _ _ rfl w.heap.size g 8 16 cq rfl (fx - fx % 4) (by first | rfl | exact congrArg (Value.int .u8) (sub4 fx) | exact congrArg (Value.int .u8) (sub4' fx) | exact congrArg (Value.int .u8) (sub4'' fx)) (((((L0.set 3 (ax % 16)).set 7 (bx % 16)).set 11 (cx % 16)).set 15 (dx % 16)).set 4 (ex - ex % 4)) (by simp [N0.out]) P5.out (by decide) ?_
    intro w7 g5 o5 z5
    have O6 := Lib.hid o5
    have B6 := Lib.hid (Q5.out.grown g5 Q5.out.size (fun k hk => by have := HG.out; injection hk; omega))
    clear g5 o5 z5 k5 c5 r5 O5 B5 s5 C5 P5 Q5 hy5 by5
    refine wpList_nil ?_
    have k6 : ((((((L0.set 3 (ax % 16)).set 7 (bx % 16)).set 11 (cx % 16)).set 15 (dx % 16)).set 4 (ex - ex % 4)).set 8 (fx - fx % 4))[12]? = some gx := by
      have q := Tg.out
      simpa using q
    have c6 : w7.cell? ⟨g, 12, none⟩ = some (.int .u8 (gx.toNat : Int)) := (O6.out.cellAt 12 (by decide)).trans (by simp only [bv, List.getElem?_map, k6, Option.map_some])
    have r6 := rem4 gx
    have s6 := sub4 gx
    have C6 := Lib.hid c6
    clear c6
    go_wp2_with fail
    refine still_tail 10 (by kernel_rfl) (by kernel_rfl) fun y6 hy6 by6 => ?_
    simp only [List.take_succ_cons, List.take_zero, List.drop_succ_cons, List.drop_zero]
    have c6 := (World.cell?_of_block (a := ⟨g, 12, none⟩) (by rw [hy6])).trans C6.out
    repeat still_step
    refine wpStill_nil ?_
    have P6 := Lib.hid (kept_below O6.out by6 rfl)
    have Q6 := Lib.hid (B6.out.trans (by6.mono B6.out.size))
    refine wpList_put_own rfl _ _ rfl w.heap.size g 12 16 cq rfl (gx - gx % 4) (by first | rfl | exact congrArg (Value.int .u8) (sub4 gx) | exact congrArg (Value.int .u8) (sub4' gx) | exact congrArg (Value.int .u8) (sub4'' gx)) ((((((L0.set 3 (ax % 16)).set 7 (bx % 16)).set 11 (cx % 16)).set 15 (dx % 16)).set 4 (ex - ex % 4)).set 8 (fx - fx % 4)) (by simp [N0.out]) P6.out (by decide) ?_
    intro w8 g6 o6 z6
    have O7 := Lib.hid o6
    have B7 := Lib.hid (Q6.out.grown g6 Q6.out.size (fun k hk => by have := HG.out; injection hk; omega))
    clear g6 o6 z6 k6 c6 r6 O6 B6 s6 C6 P6 Q6 hy6 by6
    refine wpList_nil ?_
    have HY : Hid (BytesAt w8 (.slice (some ⟨g, 0, none⟩) 16 cq) CL) := by
      have q := O7.out
      rw [HC.out] at q
      have e : CL.length = 16 := by rw [← HC.out]; simp [N0.out]
      exact Lib.hid (BytesAt.of_own (base := w.heap.size) (by rw [e]; exact q))
    clear O7
    go_wp2
    go_ret
    exact ⟨_, rfl, HY.out, B7.out⟩
end Go.Proofs.Ytaobehhekdfkkaa
