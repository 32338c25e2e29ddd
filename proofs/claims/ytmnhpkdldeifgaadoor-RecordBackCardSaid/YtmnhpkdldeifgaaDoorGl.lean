/- What the document's times of layer 7 answers. What the document's least of layer 7 answers. What the document's Tag of layer 7 answers. What the texts of layer 7's statements lean on of package poly, as one thing to prove: each call's answer. And the document's, for keys of any length. Plain mathematics of package box: padded texts, small numbers' bytes, what is tagged, what is sealed. What the document's Nonce, padded, length and tag of layer 8 answer. What the document's tag of layer 8 answers. What the document's Seal of layer 8 answers. Rows and arrays of bytes whose block is known whole: made, read, copied into (builtin copy), as bytes of a slice. What the document's Open of layer 8 answers. -/
import Derived.Test.YtmnhpkdldeifgaaDoorGk
import Derived.Test.YtmnhpkdldeifgaaDoorGj
import Derived.Test.YtmnhpkdldeifgaaDoorGe
import Derived.Laws.CopyRow
import Derived.Laws.IdiomCopy
namespace Go.Proofs.YtmnhpkdldeifgaaDoor
set_option maxRecDepth 100000
open Go.RowKit

theorem mul_small (x y : Nat) (hx : x ≤ 600) (hy : y ≤ 255) : x * y ≤ 153000 := Nat.le_trans (Nat.mul_le_mul hx hy) (by decide)
theorem take_getD (T : List Nat) (m i : Nat) (h : i < m) : (T.take m).getD i 0 = T.getD i 0 := by simp [List.getD, h]
theorem take_lt (T : List Nat) (m : Nat) (h : ∀ i, T.getD i 0 < 256) (i : Nat) : (T.take m).getD i 0 < 256 := by
  rcases Nat.lt_or_ge i m with hi | hi
  · rw [take_getD _ _ _ hi]; exact h i
  · rw [List.getD, List.getElem?_eq_none (by simp; omega)]; decide

end Go.Proofs.YtmnhpkdldeifgaaDoor

namespace Go.Proofs.YtmnhpkdldeifgaaDoor
set_option maxRecDepth 100000
open Go.RowKit

end Go.Proofs.YtmnhpkdldeifgaaDoor

namespace Go.Proofs.YtmnhpkdldeifgaaDoor
set_option maxRecDepth 100000
open Go.RowKit

/-- Some of the bytes that are known, from a place on. -/
theorem bytes_part {w : World} {b off : Nat} {l : List UInt8} (hb : ∀ j c, l[j]? = some c → w.cell? ⟨b, off + j, none⟩ = some (.int .u8 (c.toNat : Int))) (a n c' : Nat) (hn : a + n ≤ l.length) (hc : n ≤ c') :
    BytesAt w (.slice (some ⟨b, off + a, none⟩) n c') ((l.drop a).take n) := by
  have hl : ((l.drop a).take n).length = n := by simp; omega
  refine ⟨_, c', by rw [hl], by rw [hl]; exact hc, fun _ => ⟨_, rfl, fun j c hj => ?_⟩⟩
  have ha : (⟨b, off + a, none⟩ : Addr).add j = ⟨b, off + a + j, none⟩ := by unfold Addr.add; split <;> simp_all
  have hjn : j < n := by rw [← hl]; exact (List.getElem?_eq_some_iff.1 hj).1
  rw [ha, Nat.add_assoc]
  apply hb
  simpa [List.getElem?_take, hjn, List.getElem?_drop] using hj
theorem kept_below2 {w w' : World} {B : Nat} {e : TypeId} {s : Nat} {v : Value} {n : Nat} {xs : List Value} (h : w.ownsRow B e s v n xs) (hb : Below w.heap.size w w') : w'.ownsRow B e s v n xs := kept_below h hb rfl
theorem vt_split (l : List Nat) (m d : Nat) : ∃ Z, vt l (m + d) = vt l m + 256 ^ m * Z := by
  induction d with
  | zero => exact ⟨0, by simp⟩
  | succ d ih =>
    obtain ⟨Z, hZ⟩ := ih
    refine ⟨Z + 256 ^ d * l.getD (m + d) 0, ?_⟩
    show vt l (m + d) + 256 ^ (m + d) * l.getD (m + d) 0 = _
    rw [hZ, Nat.pow_add, Nat.mul_add, Nat.mul_assoc, Nat.add_assoc]
theorem tag_step (T K : List Nat) (k x y over s : Nat) (hx : x = T.getD k 0) (hy : y = K.getD k 0) (ho : over = (vt T k + vt K k) / 256 ^ k) (hs : s = over + x + y) :
    (vt T (k + 1) + vt K (k + 1)) / 256 ^ k = s ∧ (vt T (k + 1) + vt K (k + 1)) / 256 ^ (k + 1) = s / 256 := by
  have hp : 0 < 256 ^ k := Nat.pow_pos (by decide)
  have e : vt T (k + 1) + vt K (k + 1) = (vt T k + vt K k) + 256 ^ k * (x + y) := by
    rw [vt, vt, ← hx, ← hy, Nat.mul_add]
    omega
  have e1 : (vt T (k + 1) + vt K (k + 1)) / 256 ^ k = s := by
    rw [e, Nat.add_mul_div_left _ _ hp, ← ho]
    omega
  exact ⟨e1, by rw [Nat.pow_succ, ← Nat.div_div_eq_div_mul, e1]⟩
theorem tag_byte (T K : List Nat) (k : Nat) (hk : k < 16) : (vt T 17 + vt K 16) / 256 ^ k % 256 = (vt T (k + 1) + vt K (k + 1)) / 256 ^ k % 256 := by
  have hp : 0 < 256 ^ k := Nat.pow_pos (by decide)
  obtain ⟨Y, hY⟩ := vt_split T (k + 1) (17 - (k + 1))
  obtain ⟨Z, hZ⟩ := vt_split K (k + 1) (16 - (k + 1))
  rw [show k + 1 + (17 - (k + 1)) = 17 by omega] at hY
  rw [show k + 1 + (16 - (k + 1)) = 16 by omega] at hZ
  have e : vt T 17 + vt K 16 = (vt T (k + 1) + vt K (k + 1)) + 256 ^ k * (256 * (Y + Z)) := by
    rw [hY, hZ, Nat.pow_succ, ← Nat.mul_assoc, Nat.mul_add (256 ^ k * 256)]
    omega
  rw [e, Nat.add_mul_div_left _ _ hp]
  omega
/-- A block's number. -/
theorem chunk_vt (c : List UInt8) (h : c.length ≤ 16) : vt ((digL c).set c.length 1) 17 = chunkN c := by
  have hl : (digL c).length = 17 := by simp [digL, digTo]; omega
  have e := vt_set (digL c) c.length 1 17 (by omega) (by omega)
  have e0 : (digL c).getD c.length 0 = 0 := by
    rw [digL_at]
    simp [List.getD]
  rw [e0, digL_vt c 17 (by omega), Nat.mul_zero, Nat.mul_one, Nat.add_zero] at e
  exact e
/-- One block more. -/
theorem acc_step (R : Nat) (msg : List UInt8) (t V N K : Nat) (hV : V % pP = accN R msg t) (hN : N = chunkN ((msg.drop (16 * t)).take 16) + V) (hK : K % pP = N * R % pP) : K % pP = accN R msg (t + 1) := by
  rw [hK, accN, hN, ← hV, Nat.mul_mod, Nat.add_mod, Nat.mul_mod (V % pP + _), Nat.add_mod (V % pP), Nat.mod_mod, Nat.add_comm (chunkN _ % pP)]

end Go.Proofs.YtmnhpkdldeifgaaDoor

namespace Go.Proofs.YtmnhpkdldeifgaaDoor
set_option maxRecDepth 100000
open Go.RowKit

/-- Bytes in a row that was not there before. -/
def Fresh (w : World) (B : Nat) (v : Value) (l : List UInt8) : Prop :=
  ∃ g off cap t cs, v = .slice (some ⟨g, off, none⟩) l.length cap ∧ l.length ≤ cap ∧ B ≤ g ∧ Whole w g t cs ∧ ∀ j c, l[j]? = some c → cs[off + j]? = some (.int .u8 (c.toNat : Int))
theorem Fresh.bytes {w : World} {B : Nat} {v : Value} {l : List UInt8} (h : Fresh w B v l) : BytesAt w v l := by
  obtain ⟨g, off, cap, t, cs, rfl, hc, -, hw, hcell⟩ := h
  refine ⟨_, cap, rfl, hc, fun _ => ⟨_, rfl, fun j c hj => ?_⟩⟩
  have ha : (⟨g, off, none⟩ : Addr).add j = ⟨g, off + j, none⟩ := by unfold Addr.add; split <;> simp_all
  rw [ha, hw.at_]
  exact hcell j c hj
theorem Fresh.of_own {w : World} {B : Nat} {v : Value} {l : List UInt8} (h : w.ownsRow B 5 1 v l.length (bv l)) (hl : 0 < l.length) : Fresh w B v l := by
  have hx := h
  rcases h.2 with ⟨-, h0⟩ | ⟨g, cap, cur, rfl, hB, hg, hc, _, _, _⟩
  · omega
  · refine ⟨g, 0, cap, _, cur, rfl, hc, hB, hg, fun j c hj => ?_⟩
    have hjl : j < l.length := (List.getElem?_eq_some_iff.1 hj).1
    have q := hx.cellAt j (by omega)
    rw [Whole.at_ (show Whole w g _ cur from hg) j] at q
    rw [Nat.zero_add, q]
    simp [bv, hj]

def tagA (n0 : Nat) (key msg : List UInt8) : List UInt8 := if n0 = 32 then tagL key msg else []
def tagE (n0 : Nat) : Int := if n0 = 32 then 0 else 2

structure PolyIs : Prop where
  clamp : ∀ (A : Option Addr) (n cap : Nat) (l : List UInt8) (w : World) (_ : n ≤ 1000000) (_ : BytesAt w (.slice A n cap) l),
    Calls Tryd.prog 49 #[.slice A n cap] w fun e w' => ∃ v', e = .returned v' ∧ BytesAt w' v' (clampL l) ∧ Below w.heap.size w w'
  tagBad : ∀ (A0 A1 : Option Addr) (n0 n1 cap0 cap1 : Nat) (w : World) (_ : n0 ≠ 32) (_ : n1 ≤ 1000000),
    Calls Tryd.prog 36 #[.slice A0 n0 cap0, .slice A1 n1 cap1] w fun e w' => ∃ v', e = .returned (.tuple #[v', .int .i64 2]) ∧ BytesAt w' v' [] ∧ Below w.heap.size w w'
  tag : ∀ (A0 A1 : Option Addr) (n cap0 cap1 : Nat) (key msg : List UInt8) (w : World) (_ : n ≤ 1000000) (_ : BytesAt w (.slice A0 32 cap0) key) (_ : BytesAt w (.slice A1 n cap1) msg),
    Calls Tryd.prog 36 #[.slice A0 32 cap0, .slice A1 n cap1] w fun e w' => ∃ v', e = .returned (.tuple #[v', .int .i64 0]) ∧ Fresh w' w.heap.size v' (tagL key msg) ∧ Below w.heap.size w w'
  check : ∀ (A0 A1 A2 : Option Addr) (n0 n1 n2 cap0 cap1 cap2 : Nat) (key msg tag : List UInt8) (w : World) (_ : n1 ≤ 1000000) (_ : n2 ≤ 1000000) (_ : BytesAt w (.slice A0 n0 cap0) key) (_ : BytesAt w (.slice A1 n1 cap1) msg) (_ : BytesAt w (.slice A2 n2 cap2) tag),
    Calls Tryd.prog 39 #[.slice A0 n0 cap0, .slice A1 n1 cap1, .slice A2 n2 cap2] w fun e w' => e = .returned (.bool (decide (n0 = 32 ∧ tagL key msg = tag))) ∧ Below w.heap.size w w'

theorem polyTag_all (H : PolyIs) (A0 A1 : Option Addr) (n0 n1 cap0 cap1 : Nat) (key msg : List UInt8) (w : World) (hn : n1 ≤ 1000000) (h0 : BytesAt w (.slice A0 n0 cap0) key) (h1 : BytesAt w (.slice A1 n1 cap1) msg) :
    Calls Tryd.prog 36 #[.slice A0 n0 cap0, .slice A1 n1 cap1] w fun e w' => ∃ v', e = .returned (.tuple #[v', .int .i64 (tagE n0)]) ∧ BytesAt w' v' (tagA n0 key msg) ∧ Below w.heap.size w w' := by
  by_cases h : n0 = 32
  · subst h
    have e : tagE 32 = 0 := rfl
    have e2 : tagA 32 key msg = tagL key msg := by rw [tagA, if_pos rfl]
    rw [e, e2]
    refine (H.tag A0 A1 n1 cap0 cap1 key msg w hn h0 h1).mono ?_
    rintro e w' ⟨v', rfl, y, b⟩
    exact ⟨v', rfl, y.bytes, b⟩
  · rw [tagE, tagA, if_neg h, if_neg h]
    exact H.tagBad A0 A1 n0 n1 cap0 cap1 w h hn
end Go.Proofs.YtmnhpkdldeifgaaDoor

namespace Go.Proofs.YtmnhpkdldeifgaaDoor
set_option maxRecDepth 100000
open Go.RowKit

def padN (n : Nat) : Nat := (16 - n % 16) % 16
/-- A text with bytes 0 behind. -/
def padB (b : List UInt8) : List UInt8 := b ++ List.replicate (padN b.length) 0
theorem padB_length (b : List UInt8) : (padB b).length = b.length + padN b.length := by simp [padB]
theorem padN_lt (n : Nat) : padN n ≤ 15 := by rw [padN]; omega
/-- A small number's bytes, so many of them. -/
def lenTo (n k : Nat) : List UInt8 := (List.range k).map fun i => UInt8.ofNat (n / 256 ^ i)
def lenB (n : Nat) : List UInt8 := lenTo n 8
theorem lenTo_length (n k : Nat) : (lenTo n k).length = k := by simp [lenTo]
theorem lenTo_succ (n k : Nat) : lenTo n (k + 1) = lenTo n k ++ [UInt8.ofNat (n / 256 ^ k)] := by simp [lenTo, List.range_succ]
theorem lenB_length (n : Nat) : (lenB n).length = 8 := lenTo_length n 8
/-- What is tagged. -/
def tagged (wth text : List UInt8) : List UInt8 := padB wth ++ padB text ++ lenB wth.length ++ lenB text.length
theorem tagged_length (wth text : List UInt8) : (tagged wth text).length ≤ wth.length + text.length + 46 := by
  have h1 := padN_lt wth.length
  have h2 := padN_lt text.length
  simp only [tagged, List.length_append, padB_length, lenB_length]
  omega
def boxTag (key nonce wth text : List UInt8) : List UInt8 := tagL ((blockC key nonce 0).take 32) (tagged wth text)
theorem boxTag_length (key nonce wth text : List UInt8) : (boxTag key nonce wth text).length = 16 := tagL_length _ _
/-- What a text is sealed to. -/
def sealC (key nonce wth msg : List UInt8) : List UInt8 := xorC key nonce 1 msg ++ boxTag key nonce wth (xorC key nonce 1 msg)
def nonceB (n : Nat) : List UInt8 := [0, 0, 0, 0] ++ be 8 n
theorem nonceB_length (n : Nat) : (nonceB n).length = 12 := by simp [nonceB, be_length]
theorem sealC_length (key nonce wth msg : List UInt8) : (sealC key nonce wth msg).length = msg.length + 16 := by
  rw [sealC, List.length_append, xorC_length, boxTag_length]

/-- Seal's answers and Open's, for keys and nonces of any length. -/
def seA (n0 n1 : Nat) (key nonce wth msg : List UInt8) : List UInt8 := if n0 ≠ 32 ∨ n1 ≠ 12 then [] else sealC key nonce wth msg
def seC (n0 n1 : Nat) : Int := if n0 ≠ 32 ∨ n1 ≠ 12 then 2 else 0
def goodTag (key nonce wth sealed : List UInt8) : Prop := boxTag key nonce wth (sealed.take (sealed.length - 16)) = sealed.drop (sealed.length - 16)
instance (key nonce wth sealed : List UInt8) : Decidable (goodTag key nonce wth sealed) := inferInstanceAs (Decidable (_ = _))
def opA (n0 n1 : Nat) (key nonce wth sealed : List UInt8) : List UInt8 :=
  if n0 ≠ 32 ∨ n1 ≠ 12 then [] else if sealed.length < 16 then [] else if goodTag key nonce wth sealed then xorC key nonce 1 (sealed.take (sealed.length - 16)) else []
def opC (n0 n1 : Nat) (key nonce wth sealed : List UInt8) : Int :=
  if n0 ≠ 32 ∨ n1 ≠ 12 then 2 else if sealed.length < 16 then 10 else if goodTag key nonce wth sealed then 0 else 21
end Go.Proofs.YtmnhpkdldeifgaaDoor

namespace Go.Proofs.YtmnhpkdldeifgaaDoor
set_option maxRecDepth 100000
open Go.RowKit

end Go.Proofs.YtmnhpkdldeifgaaDoor

namespace Go.Proofs.YtmnhpkdldeifgaaDoor
set_option maxRecDepth 100000
open Go.RowKit

end Go.Proofs.YtmnhpkdldeifgaaDoor

namespace Go.Proofs.YtmnhpkdldeifgaaDoor
set_option maxRecDepth 100000
open Go.RowKit

end Go.Proofs.YtmnhpkdldeifgaaDoor

namespace Go.Proofs.YtmnhpkdldeifgaaDoor
set_option maxRecDepth 100000
open Go.RowKit

theorem block_bytes {w : World} {g : Nat} {t : TypeId} {l : List UInt8} {n cap : Nat} (h : Whole w g t (bv l).toArray) (hn : n = l.length) (hc : n ≤ cap) : BytesAt w (.slice (some ⟨g, 0, none⟩) n cap) l := by
  subst hn
  refine ⟨_, _, rfl, hc, fun _ => ⟨_, rfl, fun j c hj => ?_⟩⟩
  have ha : (⟨g, 0, none⟩ : Addr).add j = ⟨g, j, none⟩ := by unfold Addr.add; split <;> simp_all
  rw [ha, h.at_ j]
  simp [bv, hj]
theorem block_cell {w : World} {g : Nat} {t : TypeId} {l : List UInt8} (h : Whole w g t (bv l).toArray) (i : Nat) (c : UInt8) (hc : l[i]? = some c) : w.cell? ⟨g, i, none⟩ = some (.int .u8 (c.toNat : Int)) := by
  rw [h.at_ i]
  simp [bv, hc]
theorem block_own {w : World} {base g n : Nat} {xs : List Value} (h : w.ownsRow base 5 1 (.slice (some ⟨g, 0, none⟩) n n) n xs) : Whole w g 5 xs.toArray := by
  rcases h.2 with ⟨h1, -⟩ | ⟨g', cap, cur, h1, -, h3, -, -, h6, h7⟩
  · cases h1
  · injection h1 with h1 _ h2
    injection h1 with h1
    injection h1 with h1
    subst h1 h2
    rw [Whole, h3, ← h7, List.take_of_length_le (by simp; omega)]
/-- The bytes from a place on. -/
theorem BytesAt.rest {w : World} {A : Option Addr} {n cap : Nat} {l : List UInt8} (h : BytesAt w (.slice A n cap) l) (m : Nat) (hm : m ≤ n) : BytesAt w (.slice (if cap = m then A else A.map (·.add m)) (n - m) (cap - m)) (l.drop m) := by
  obtain ⟨hn, hcap⟩ := h.size
  refine ⟨_, cap - m, by rw [List.length_drop, ← hn], by rw [List.length_drop]; omega, fun hne => ?_⟩
  have hl : l ≠ [] := by rintro rfl; simp at hne
  obtain ⟨b, off, rfl, _, hc⟩ := h.spots hl
  have hd : ¬ cap = m := by
    intro e
    apply hne
    apply List.drop_eq_nil_of_le
    omega
  have ha' : (⟨b, off, none⟩ : Addr).add m = ⟨b, off + m, none⟩ := by unfold Addr.add; split <;> simp_all
  rw [if_neg hd, Option.map_some, ha']
  refine ⟨_, rfl, fun j c hj => ?_⟩
  have ha : (⟨b, off + m, none⟩ : Addr).add j = ⟨b, off + (m + j), none⟩ := by unfold Addr.add; split <;> simp_all [Nat.add_assoc]
  rw [ha]
  rw [List.getElem?_drop] at hj
  exact hc _ c hj
theorem grown_same (w : World) (g : Nat) : w.grownBy w (some g) := ⟨rfl, rfl, rfl, Nat.le_refl _, fun _ _ _ => rfl⟩
/-- Bytes copied into a block. -/
theorem run_copy_in (w : World) (ty : TypeId) (g n cap : Nat) (t : TypeId) (L : List UInt8) (src : Value) (l : List UInt8) (hg : Whole w g t (bv L).toArray) (hL : L.length = n) (hs : BytesAt w src l) (m : Nat) (hmn : m = min l.length n) :
    ∃ w', (Builtin.copy_ #[25, 25] ty #[.slice (some ⟨g, 0, none⟩) n cap, src]).run Tryd.prog w = .ok (goInt (m : Int)) w' ∧ Whole w' g t (bv (l.take n ++ L.drop m)).toArray ∧ w.grownBy w' (some g) ∧ w'.heap.size = w.heap.size := by
  have bs : (Tryd.prog.info? 5).map (·.size) = some 1 := by kernel_rfl
  subst hmn
  obtain ⟨A, c, rfl, -, hc⟩ := hs
  by_cases h0 : min l.length n = 0
  · have q := run_copy_none (P := Tryd.prog) w 25 25 ty 5 (some ⟨g, 0, none⟩) A n cap l.length c Tryd.underlying25 bs h0
    have e : l.take n ++ L.drop (min l.length n) = L := by
      rw [h0]
      have : l.take n = [] := by
        apply List.eq_nil_of_length_eq_zero
        rw [List.length_take]
        omega
      rw [this]
      rfl
    refine ⟨w, ?_, by rw [e]; exact hg, grown_same w g, rfl⟩
    rw [h0]
    exact q
  · obtain ⟨ad, rfl, hcell⟩ := hc (by intro e; subst e; simp at h0)
    have hm : (bv (l.take n)).length = Nat.min l.length n := by rw [bv_length, List.length_take, Nat.min_comm]
    have q := run_copy_row (P := Tryd.prog) w 25 25 ty 5 g 0 n cap ad l.length c (bv L).toArray t (bv (l.take n)) Tryd.underlying25 bs hg hm (fun j v hj => by
      simp only [bv, List.getElem?_map, Option.map_eq_some_iff] at hj
      obtain ⟨x, hx, rfl⟩ := hj
      have hjn : j < n := by
        have := (List.getElem?_eq_some_iff.1 hx).1
        rw [List.length_take] at this
        omega
      rw [List.getElem?_take_of_lt hjn] at hx
      exact hcell j x hx) (by simp [bv_length]; omega) (bv_one _)
    rw [hm] at q
    refine ⟨_, q, ?_, grown_setRow w g _, by simp⟩
    have q2 := hg.setRow (cs := ((bv L).toArray.toList.take 0 ++ bv (l.take n) ++ (bv L).toArray.toList.drop (0 + Nat.min l.length n)).toArray)
    have e : bv (l.take n ++ L.drop (min l.length n)) = (bv L).toArray.toList.take 0 ++ bv (l.take n) ++ (bv L).toArray.toList.drop (0 + Nat.min l.length n) := by
      rw [bv_append, List.take_zero, List.nil_append, Nat.zero_add]
      simp only [bv, List.map_drop]
    rw [e]
    exact q2

section
variable {ops : Array Oper} {rest : List Oper} {o : Oper} {a : Act} {w : World} {Q : Exit → Act → World → Prop}
/-- Zero bytes are made: a block of one's own. -/
theorem wpList_make_block (hgd : o.guard = none) (l c : Operand) (ho : o.op = .makeSlice 25 l c) (n : Nat) (hl : a.eval l = .int .i64 (n : Int)) (hc : a.eval c = .int .i64 (n : Int)) (hn : n ≤ 10000000)
    (h : ∀ w', Whole w' w.heap.size 5 (bv (List.replicate n 0)).toArray → Below w.heap.size w w' → w.heap.size < w'.heap.size → wpList Tryd.prog ops Q rest (a.put o.dst (.slice (some ⟨w.heap.size, 0, none⟩) n n)) w') : wpList Tryd.prog ops Q (o :: rest) a w :=
  wpList_make_row hgd l c ho n hl hc hn fun w' h1 h2 h3 => h w' (block_own h1) h2 h3
/-- A byte stored into a place of a row that is known. -/
theorem wpList_put_at (hgd : o.guard = none) (x y : Operand) (ho : o.op = .store 5 x y)
    (g i : Nat) (hx : a.eval x = .pointer (some ⟨g, i, none⟩)) (c : UInt8) (hy : a.eval y = .int .u8 (c.toNat : Int)) (t : TypeId) (cs : Array Value) (hg : Whole w g t cs) (old : Value) (hi : cs[i]? = some old)
    (h : ∀ w', w.grownBy w' (some g) → Whole w' g t (cs.setIfInBounds i (.int .u8 (c.toNat : Int))) → w'.heap.size = w.heap.size → wpList Tryd.prog ops Q rest (a.put o.dst undef) w') : wpList Tryd.prog ops Q (o :: rest) a w := by
  refine wpList_plain hgd fun K hK => ?_
  have c1 : w.cell? ⟨g, i, none⟩ = some old := (hg.at_ i).trans hi
  have hh := hK _ _ (h _ (grown_store w g i (.int .u8 (c.toNat : Int))) (hg.stored i _) (by simp))
  have hz : (sizeOf 5).run Tryd.prog w = .ok 1 w := by kernel_rfl
  unfold Oper.wp execOp
  have hc : (Value.int .u8 (c.toNat : Int)).cells = #[.int .u8 (c.toNat : Int)] := rfl
  simp only [ho, hx, hy, Instr.storeAt, Instr.sureAddr, storeVar, hc, Sem.run_bind, Sem.run_pure, Result.andThen_ok, hz, List.size_toArray, List.length_cons, List.length_nil, ne_eq, not_true_eq_false, if_false, store_byte_at w g i _ c1 (hg.free i) c, Oper.upon]
  exact hh
end
/-- Bytes of a known row, one of them changed. -/
theorem bytes_changed {w : World} {g off cap j : Nat} {t : TypeId} {cs : Array Value} {T : List UInt8} {d : UInt8} (hw : Whole w g t (cs.setIfInBounds (off + j) (.int .u8 (d.toNat : Int)))) (hcell : ∀ i c, T[i]? = some c → cs[off + i]? = some (.int .u8 (c.toNat : Int))) (hj : j < T.length) (hc : T.length ≤ cap) :
    BytesAt w (.slice (some ⟨g, off, none⟩) T.length cap) (T.set j d) := by
  have hlen : (T.set j d).length = T.length := by rw [List.length_set]
  refine ⟨_, cap, by rw [hlen], by rw [hlen]; exact hc, fun _ => ⟨_, rfl, fun i x hd => ?_⟩⟩
  have ha : (⟨g, off, none⟩ : Addr).add i = ⟨g, off + i, none⟩ := by unfold Addr.add; split <;> simp_all
  rw [ha, hw.at_]
  rw [List.getElem?_set] at hd
  by_cases e : j = i
  · subst e
    simp only [if_true, hj] at hd
    injection hd with hd
    subst hd
    have hsz : off + j < cs.size := (Array.getElem?_eq_some_iff.1 (hcell j _ (List.getElem?_eq_getElem hj))).1
    simp [hsz]
  · rw [if_neg e] at hd
    rw [Array.getElem?_setIfInBounds_ne (by omega)]
    exact hcell i x hd
end Go.Proofs.YtmnhpkdldeifgaaDoor

namespace Go.Proofs.YtmnhpkdldeifgaaDoor
set_option maxRecDepth 100000
open Go.RowKit

end Go.Proofs.YtmnhpkdldeifgaaDoor
