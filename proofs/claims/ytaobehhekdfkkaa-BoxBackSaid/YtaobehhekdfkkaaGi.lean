/- What the texts of layer 7's statements lean on of package poly, as one thing to prove: each call's answer. And the document's, for keys of any length. Over XGenA's words: plain mathematics of package pack: a number's lowest bytes, the highest first, and the number that bytes are. It speaks of no program. Over XGenA's words: what pack.Num and the document's Num (carcanetref01) put. Plain mathematics of package box: padded texts, small numbers' bytes, what is tagged, what is sealed. What the document's Nonce, padded, length and tag of layer 8 answer. What the document's tag of layer 8 answers. -/
import Derived.Test.YtaobehhekdfkkaaGh
import Derived.Test.YtaobehhekdfkkaaGa
import Derived.Laws.BitsAllLaws
import Derived.Test.YtaobehhekdfkkaaGb
import Derived.Lib.AppendStr
import Derived.Deep.DeepCutAuto
import Derived.Deep.LoopGhost
import Derived.ChangeAlike
import Derived.Test.YtaobehhekdfkkaaGf
namespace Go.Proofs.Ytaobehhekdfkkaa
open Go.RowKit

/-- Bytes in a row that was not there before. -/
def Fresh (w : World) (B : Nat) (v : Value) (l : List UInt8) : Prop :=
  ∃ g off cap t cs, v = .slice (some ⟨g, off, none⟩) l.length cap ∧ l.length ≤ cap ∧ B ≤ g ∧ Whole w g t cs ∧ ∀ j c, l[j]? = some c → cs[off + j]? = some (.int .u8 (c.toNat : Int))
theorem Fresh.bytes {w : World} {B : Nat} {v : Value} {l : List UInt8} (h : Fresh w B v l) : BytesAt w v l := by
  obtain ⟨g, off, cap, t, cs, rfl, hc, -, hw, hcell⟩ := h
  refine ⟨_, cap, rfl, hc, fun _ => ⟨_, rfl, fun j c hj => ?_⟩⟩
  have ha : (⟨g, off, none⟩ : Addr).add j = ⟨g, off + j, none⟩ := by unfold Addr.add; split <;> simp_all
  rw [ha, hw.at_]
  exact hcell j c hj
theorem Fresh.of_own {w : World} {B : Nat} {v : Value} {l : List UInt8} (h : w.ownsRow B 5 1 v l.length (bv l)) (hl : 0 < l.length) : Fresh w B v l := by
  have hx := h
  rcases h.2 with ⟨-, h0⟩ | ⟨g, cap, cur, rfl, hB, hg, hc, _, _, _⟩
  · omega
  · refine ⟨g, 0, cap, _, cur, rfl, hc, hB, hg, fun j c hj => ?_⟩
    have hjl : j < l.length := (List.getElem?_eq_some_iff.1 hj).1
    have q := hx.cellAt j (by omega)
    rw [Whole.at_ (show Whole w g _ cur from hg) j] at q
    rw [Nat.zero_add, q]
    simp [bv, hj]

def tagA (n0 : Nat) (key msg : List UInt8) : List UInt8 := if n0 = 32 then tagL key msg else []
def tagE (n0 : Nat) : Int := if n0 = 32 then 0 else 2

structure PolyIs : Prop where
  clamp : ∀ (A : Option Addr) (n cap : Nat) (l : List UInt8) (w : World) (_ : n ≤ 1000000) (_ : BytesAt w (.slice A n cap) l),
    Calls Try.prog 27 #[.slice A n cap] w fun e w' => ∃ v', e = .returned v' ∧ BytesAt w' v' (clampL l) ∧ Below w.heap.size w w'
  tagBad : ∀ (A0 A1 : Option Addr) (n0 n1 cap0 cap1 : Nat) (w : World) (_ : n0 ≠ 32) (_ : n1 ≤ 1000000),
    Calls Try.prog 15 #[.slice A0 n0 cap0, .slice A1 n1 cap1] w fun e w' => ∃ v', e = .returned (.tuple #[v', .int .i64 2]) ∧ BytesAt w' v' [] ∧ Below w.heap.size w w'
  tag : ∀ (A0 A1 : Option Addr) (n cap0 cap1 : Nat) (key msg : List UInt8) (w : World) (_ : n ≤ 1000000) (_ : BytesAt w (.slice A0 32 cap0) key) (_ : BytesAt w (.slice A1 n cap1) msg),
    Calls Try.prog 15 #[.slice A0 32 cap0, .slice A1 n cap1] w fun e w' => ∃ v', e = .returned (.tuple #[v', .int .i64 0]) ∧ Fresh w' w.heap.size v' (tagL key msg) ∧ Below w.heap.size w w'
  check : ∀ (A0 A1 A2 : Option Addr) (n0 n1 n2 cap0 cap1 cap2 : Nat) (key msg tag : List UInt8) (w : World) (_ : n1 ≤ 1000000) (_ : n2 ≤ 1000000) (_ : BytesAt w (.slice A0 n0 cap0) key) (_ : BytesAt w (.slice A1 n1 cap1) msg) (_ : BytesAt w (.slice A2 n2 cap2) tag),
    Calls Try.prog 21 #[.slice A0 n0 cap0, .slice A1 n1 cap1, .slice A2 n2 cap2] w fun e w' => e = .returned (.bool (decide (n0 = 32 ∧ tagL key msg = tag))) ∧ Below w.heap.size w w'

theorem polyTag_all (H : PolyIs) (A0 A1 : Option Addr) (n0 n1 cap0 cap1 : Nat) (key msg : List UInt8) (w : World) (hn : n1 ≤ 1000000) (h0 : BytesAt w (.slice A0 n0 cap0) key) (h1 : BytesAt w (.slice A1 n1 cap1) msg) :
    Calls Try.prog 15 #[.slice A0 n0 cap0, .slice A1 n1 cap1] w fun e w' => ∃ v', e = .returned (.tuple #[v', .int .i64 (tagE n0)]) ∧ BytesAt w' v' (tagA n0 key msg) ∧ Below w.heap.size w w' := by
  by_cases h : n0 = 32
  · subst h
    have e : tagE 32 = 0 := rfl
    have e2 : tagA 32 key msg = tagL key msg := by rw [tagA, if_pos rfl]
    rw [e, e2]
    refine (H.tag A0 A1 n1 cap0 cap1 key msg w hn h0 h1).mono ?_
    rintro e w' ⟨v', rfl, y, b⟩
    exact ⟨v', rfl, y.bytes, b⟩
  · rw [tagE, tagA, if_neg h, if_neg h]
    exact H.tagBad A0 A1 n0 n1 cap0 cap1 w h hn
theorem refTag_all (A0 A1 : Option Addr) (n0 n1 cap0 cap1 : Nat) (key msg : List UInt8) (w : World) (hn : n1 ≤ 1000000) (h0 : BytesAt w (.slice A0 n0 cap0) key) (h1 : BytesAt w (.slice A1 n1 cap1) msg) :
    Calls Try.prog 39 #[.slice A0 n0 cap0, .slice A1 n1 cap1] w fun e w' => ∃ v', e = .returned (.tuple #[v', .int .i64 (tagE n0)]) ∧ BytesAt w' v' (tagA n0 key msg) ∧ Below w.heap.size w w' := by
  by_cases h : n0 = 32
  · subst h
    have e : tagE 32 = 0 := rfl
    have e2 : tagA 32 key msg = tagL key msg := by rw [tagA, if_pos rfl]
    rw [e, e2]
    exact refTag_any A0 A1 n1 cap0 cap1 key msg hn w h0 h1
  · rw [tagE, tagA, if_neg h, if_neg h]
    refine (refTag_bad A0 n0 cap0 _ h w).mono ?_
    rintro e w' ⟨rfl, b⟩
    exact ⟨_, rfl, BytesAt.nil w', b⟩

end Go.Proofs.Ytaobehhekdfkkaa

namespace Go.Proofs.Ytaobehhekdfkkaa

/-- The j-th of the lowest size bytes of x, the highest first. -/
def beAt (size x j : Nat) : UInt8 := UInt8.ofNat (x / 2 ^ (8 * (size - 1 - j)) % 256)
/-- The first k of them. -/
def beTo (size x : Nat) : Nat → List UInt8
  | 0 => []
  | k + 1 => beTo size x k ++ [beAt size x k]
def be (size x : Nat) : List UInt8 := beTo size x size

theorem beTo_length (size x k : Nat) : (beTo size x k).length = k := by
  induction k with
  | zero => rfl
  | succ k ih => simp [beTo, ih]
theorem be_length (size x : Nat) : (be size x).length = size := beTo_length size x size

theorem beAt_cell (size x k : Nat) : bv [beAt size x k] = [Value.int .u8 ((x : Int) / 2 ^ (8 * (size - 1 - k)) % 256)] := by
  have h : ((beAt size x k).toNat : Int) = (x : Int) / 2 ^ (8 * (size - 1 - k)) % 256 := by
    simp [beAt]
  simp [bv, h]
/-- The number that bytes are, the highest first. -/
def ofBe (l : List UInt8) : Nat := l.foldl (fun n c => n * 256 + c.toNat) 0
theorem ofBe_snoc (l : List UInt8) (c : UInt8) : ofBe (l ++ [c]) = ofBe l * 256 + c.toNat := by simp [ofBe]
theorem foldBe_lt (l : List UInt8) : ∀ n : Nat, l.foldl (fun n c => n * 256 + c.toNat) n < (n + 1) * 256 ^ l.length := by
  induction l with
  | nil => intro n; simp
  | cons c l ih =>
    intro n
    have h := ih (n * 256 + c.toNat)
    have hc := c.toNat_lt
    simp only [List.foldl_cons, List.length_cons, Nat.pow_succ]
    have h2 : (n * 256 + c.toNat + 1) * 256 ^ l.length ≤ ((n + 1) * 256) * 256 ^ l.length := Nat.mul_le_mul_right _ (by omega)
    have h3 : ((n + 1) * 256) * 256 ^ l.length = (n + 1) * (256 ^ l.length * 256) := by rw [Nat.mul_assoc, Nat.mul_comm 256]
    omega
theorem ofBe_lt (l : List UInt8) : ofBe l < 256 ^ l.length := by
  have := foldBe_lt l 0
  simpa [ofBe] using this
theorem or_byte (a c : Nat) (hc : c < 256) (h : a * 256 + c < 18446744073709551616) :
    bits .or .u64 (IntKind.u64.wrap ((a : Int) * 256)) (IntKind.u64.wrap (c : Int)) = ((a * 256 + c : Nat) : Int) := by
  have k1 : a * 256 < 18446744073709551616 := Nat.lt_of_le_of_lt (Nat.le_add_right _ c) h
  have k2 : c < 18446744073709551616 := Nat.lt_of_le_of_lt (Nat.le_add_left c (a * 256)) h
  have e1 : IntKind.u64.wrap ((a : Int) * 256) = ((a * 256 : Nat) : Int) := by rw [IntKind.wrap_u64]; clear h; omega
  have e2 : IntKind.u64.wrap (c : Int) = (c : Int) := by rw [IntKind.wrap_u64]; clear h; omega
  rw [e1, e2, u64_or_nat (a * 256) c k1 k2]
  clear e1 e2
  have h2 : 2 ^ 8 * a + c = 2 ^ 8 * a ||| c := Nat.two_pow_add_eq_or_of_lt (i := 8) (by omega) a
  have e3 : 2 ^ 8 * a = a * 256 := by omega
  rw [e3] at h2
  rw [h2]
theorem take_one_more (s : ByteArray) (k : Nat) (h : k < s.size) : s.data.toList.take (k + 1) = s.data.toList.take k ++ [s[k]] := by
  rw [List.take_succ_eq_append_getElem (by simpa using h)]; rfl
theorem ofBe_take (s : ByteArray) (k : Nat) (h : k < s.size) (h8 : s.size ≤ 8) :
    bits .or .u64 (IntKind.u64.wrap ((ofBe (s.data.toList.take k) : Int) * 256)) (IntKind.u64.wrap (s[k].toNat : Int)) = (ofBe (s.data.toList.take (k + 1)) : Int) := by
  have hb := ofBe_lt (s.data.toList.take (k + 1))
  have hp : 256 ^ (s.data.toList.take (k + 1)).length ≤ 256 ^ 8 := Nat.pow_le_pow_right (by omega) (by simp; omega)
  rw [take_one_more s k h, ofBe_snoc] at *
  exact or_byte _ _ s[k].toNat_lt (Nat.lt_of_lt_of_le hb (Nat.le_trans hp (by decide)))
theorem add_take (s : ByteArray) (k : Nat) (h : k < s.size) (h8 : s.size ≤ 8) :
    IntKind.u64.wrap (IntKind.u64.wrap ((ofBe (s.data.toList.take k) : Int) * 256) + IntKind.u64.wrap (s[k].toNat : Int)) = (ofBe (s.data.toList.take (k + 1)) : Int) := by
  have hb := ofBe_lt (s.data.toList.take (k + 1))
  have hp : 256 ^ (s.data.toList.take (k + 1)).length ≤ 256 ^ 8 := Nat.pow_le_pow_right (by omega) (by simp; omega)
  have hlt : ofBe (s.data.toList.take (k + 1)) < 18446744073709551616 := Nat.lt_of_lt_of_le hb (Nat.le_trans hp (by decide))
  clear hb hp
  rw [take_one_more s k h, ofBe_snoc] at *
  generalize ofBe (s.data.toList.take k) = a at *
  generalize s[k].toNat = c at *
  simp only [IntKind.wrap_u64]
  have e : (((a : Int) * 256) % 18446744073709551616 + (c : Int) % 18446744073709551616) % 18446744073709551616 = ((a : Int) * 256 + c) % 18446744073709551616 := by rw [← Int.add_emod]
  rw [e]
  have e2 : ((a : Int) * 256 + c) = ((a * 256 + c : Nat) : Int) := by simp
  rw [e2]
  generalize a * 256 + c = m at *
  omega
/-- What a text is cut to. -/
def cutText (s : ByteArray) : ByteArray := s.extract 0 (min s.size 65535)
end Go.Proofs.Ytaobehhekdfkkaa

namespace Go.Proofs.Ytaobehhekdfkkaa
open Go.RowKit

set_option maxHeartbeats 400000 in
theorem fits_yes (n : Int) (w : World) (h1 : 1 ≤ n) (h2 : n ≤ 8) :
    Calls Try.prog 40 #[.int .i64 n] w fun e w' => e = .returned (.bool true) ∧ w = w' := by
  go_enter Try.func40, Try.ntmps40
  go_wp2
  go_ret
  exact ⟨rfl, rfl⟩

set_option maxHeartbeats 400000 in
theorem put_num (base : Nat) (v : Value) (l : List UInt8) (x size : Nat) (w : World) (h1 : 1 ≤ size) (h8 : size ≤ 8)
    (hown : w.ownsRow base 5 1 v l.length (bv l)) (hb : base ≤ w.heap.size) (hl : l.length ≤ 1000000) :
    Calls Try.prog 19 #[v, .int .u64 x, .int .i64 size] w fun e w' =>
      ∃ v', e = .returned v' ∧ w'.ownsRow base 5 1 v' (l.length + size) (bv (l ++ be size x)) ∧ Below base w w' := by
  obtain ⟨i0, hi0, hz0, hz1, hz2⟩ := info_parts byte_info
  go_enter Try.func19, Try.ntmps19
  go_wp2_with fail
  refine (fits_yes _ _ (by omega) (by omega)).mono ?_
  rintro e w1 ⟨rfl, rfl⟩
  go_wp2_with fail
  have Hown := Lib.hid hown
  clear hown
  go_loopw [0, 13] (fun u i wr => ∃ k : Nat, k ≤ size ∧ i = .int .i64 k ∧ wr.ownsRow base 5 1 u (l.length + k) (bv (l ++ beTo size x k)) ∧ Below base w wr) (fun _ i _ => size - (intOf i).toNat)
  case atStart => exact ⟨0, Nat.zero_le _, rfl, by simpa [beTo] using Hown.out, Below.refl _ _⟩
  case round =>
    obtain ⟨k, hk, rfl, ho, hbel⟩ := hrel
    have hbs := hbel.size
    by_cases hlt : k < size
    · go_wp2_with (at_builtin; refine wpList_append_own _ rfl (.tmp 16) (.tmp 25) 22 rfl base 5 i0 (.int .u8 0) 1 1 Try.underlying22 hi0 hz0 hz1 hz2 rfl (by decide) _ (l.length + k) _ rfl (ho.alloc _) ⟨wr.heap.size, 0, none⟩ 1 1 [.int .u8 ((x : Int) / 2 ^ (8 * (size - 1 - k)) % 256)] rfl rfl ?c1 ?c2 ?c3 ?c4 ?c5 ?_)
      case c1 => exact cell_one_new _ _ _
      case c2 => intro u hu; simp at hu; subst hu; rfl
      case c3 => simp only [maxLen]; omega
      case c4 => omega
      case c5 => simp; omega
      intro v' w1 ho' hg _
      have hr := (ho.alloc (.cells #[.int .u8 ((x : Int) / 2 ^ (8 * (size - 1 - k)) % 256)] 5)).lt
      have hbel' : Below base w w1 := (hbel.alloc (by omega) _).grown hg (by simp; omega) (fun g hg => (hr g hg).1)
      have ho2 : w1.ownsRow base 5 1 v' (l.length + (k + 1)) (bv (l ++ beTo size x (k + 1))) := by
        rw [beTo, ← List.append_assoc, bv_append, beAt_cell]
        exact ho'
      have HO := Lib.hid ho2
      clear ho2 ho' hg ho hr
      go_wp2
      go_roundw
      case rel => exact ⟨k + 1, by omega, by go_num, HO.out, hbel'⟩
      case measure => simp [intOf]; omega
    · obtain rfl : k = size := by omega
      have HO := Lib.hid ho
      clear ho
      go_wp2
      go_ret
      exact ⟨_, rfl, HO.out, hbel⟩

theorem be_eq (size x : Nat) : be size x = (List.range size).map (beAt size x) := by
  have h : ∀ k, beTo size x k = (List.range k).map (beAt size x) := by
    intro k
    induction k with
    | zero => rfl
    | succ k ih => rw [beTo, ih, List.range_succ, List.map_append]; rfl
  exact h size
theorem be_succ (j x : Nat) : be (j + 1) x = UInt8.ofNat (x / 256 ^ j % 256) :: be j x := by
  rw [be_eq, be_eq, List.range_succ_eq_map, List.map_cons, List.map_map]
  congr 1
  · simp only [beAt]
    rw [show (256 : Nat) = 2 ^ 8 from rfl, ← Nat.pow_mul]
    simp
  · apply List.map_congr_left
    intro i _
    simp only [Function.comp, beAt]
    have : j + 1 - 1 - i.succ = j - 1 - i := by omega
    rw [this]

/-- The bytes while the number is written from its end. -/
def midN (l : List UInt8) (size x j : Nat) : List UInt8 := l ++ (List.replicate (size - j) 0 ++ be j x)
theorem midN_length (l : List UInt8) (size x j : Nat) (h : j ≤ size) : (midN l size x j).length = l.length + size := by
  simp [midN, be_length]; omega
theorem midN_zero (l : List UInt8) (size x : Nat) : midN l size x 0 = l ++ List.replicate size 0 := by simp [midN, be, beTo]
theorem midN_all (l : List UInt8) (size x : Nat) : midN l size x size = l ++ be size x := by simp [midN]
theorem midN_set (l : List UInt8) (size x j : Nat) (h : j < size) :
    (bv (midN l size x j)).set (l.length + size - 1 - j) (.int .u8 (((x / 256 ^ j % 256 : Nat)) : Int)) = bv (midN l size x (j + 1)) := by
  have e1 : size - j = (size - (j + 1)) + 1 := by omega
  rw [midN, midN, be_succ, e1, List.replicate_succ']
  simp only [bv, List.map_append, List.map_cons, List.map_nil, List.append_assoc]
  have e2 : l.length + size - 1 - j = (l.map fun c => Value.int .u8 (c.toNat : Int)).length + (size - (j + 1)) := by simp; omega
  rw [e2, List.set_append_right _ _ (by omega), Nat.add_sub_cancel_left]
  congr 1
  rw [List.set_append_right _ _ (by simp)]
  simp

set_option maxHeartbeats 1000000 in
theorem ref_num_put (A : Option Addr) (l : List UInt8) (cap x size : Nat) (w : World) (hb : BytesAt w (.slice A l.length cap) l) (h1 : 1 ≤ size) (h8 : size ≤ 8) (hl : l.length ≤ 3000) (hx : x < 18446744073709551616) :
    Calls Try.prog 20 #[.slice A l.length cap, .int .u64 x, .int .i64 size] w fun e w' =>
      ∃ v', e = .returned v' ∧ w'.ownsRow w.heap.size 5 1 v' (l ++ be size x).length (bv (l ++ be size x)) ∧ Below w.heap.size w w' := by
  have HB := Lib.hid hb
  have HX := Lib.hid hx
  clear hb hx
  obtain ⟨i0, hi0, hz0, hz1, hz2⟩ := info_parts byte_info
  have d1 : decide ((size : Int) < 1) = false := by simp; omega
  have d8 : decide ((8 : Int) < (size : Int)) = false := by simp; omega
  go_enter Try.func20, Try.ntmps20
  go_wp2_with (at_builtin; refine wpList_append_bytes rfl (.tmp 17) (.tmp 18) rfl w.heap.size _ 0 [] rfl (own_empty w) _ l rfl ?c1 ?c2 ?c3 ?_)
  case c1 => exact HB.out.below ((Below.refl _ _).alloc (Nat.le_refl _) _)
  case c2 => omega
  case c3 => simp
  intro v1 w1 ho1 hg1
  have hb1 : Below w.heap.size w w1 := ((Below.refl _ _).alloc (Nat.le_refl _) _).grown hg1 (by simp) (fun k hk => by simp [Value.ownBlock] at hk; omega)
  have HO1 := Lib.hid ho1
  have HB1 := Lib.hid hb1
  clear ho1 hg1 hb1
  go_wp2_with fail
  go_loopw [7, 8] (fun u i wr => ∃ k : Nat, k ≤ size ∧ i = .int .i64 k ∧ wr.ownsRow w.heap.size 5 1 u (l.length + k) (bv (l ++ List.replicate k 0)) ∧ Below w.heap.size w wr) (fun _ i _ => size - (intOf i).toNat)
  case atStart => exact ⟨0, Nat.zero_le _, rfl, by simpa using HO1.out, HB1.out⟩
  case round =>
    obtain ⟨k, hk, rfl, ho, hbel⟩ := hrel
    have HO := Lib.hid ho
    have HBe := Lib.hid hbel
    have zr := hbel.size
    clear ho hbel
    by_cases hlt : k < size
    · go_wp2_with (at_builtin; refine wpList_append_own _ rfl (.tmp 25) (.tmp 26) 22 rfl w.heap.size 5 i0 (.int .u8 0) 1 1 Try.underlying22 hi0 hz0 hz1 hz2 rfl (by decide) _ (l.length + k) _ rfl (HO.out.alloc _) ⟨wr.heap.size, 0, none⟩ 1 1 [.int .u8 0] rfl rfl ?c1 ?c2 ?c3 ?c4 ?c5 ?_)
      case c1 => exact cell_one_new _ _ _
      case c2 => intro u hu; simp at hu; subst hu; rfl
      case c3 => simp only [maxLen]; omega
      case c4 => omega
      case c5 => simp; omega
      intro v' w2 ho' hg _
      have hr := (HO.out.alloc (.cells #[.int .u8 0] 5)).lt
      have hbel' : Below w.heap.size w w2 := (HBe.out.alloc (by omega) _).grown hg (by simp; omega) (fun g hg => (hr g hg).1)
      have ho2 : w2.ownsRow w.heap.size 5 1 v' (l.length + (k + 1)) (bv (l ++ List.replicate (k + 1) 0)) := by
        rw [List.replicate_succ', ← List.append_assoc, bv_append]
        exact ho'
      have HO2 := Lib.hid ho2
      have HB2 := Lib.hid hbel'
      clear ho2 ho' hg hr hbel'
      go_wp2
      go_roundw
      case rel => exact ⟨k + 1, by omega, by go_num, HO2.out, HB2.out⟩
      case measure => simp [intOf]; omega
    · obtain rfl : k = size := by omega
      obtain ⟨g, capg, hv, hgb, hgl⟩ := HO.out.form (by omega)
      obtain rfl := hv
      have HOa := Lib.hid (by have q := HO.out; rw [← midN_zero l k x] at q; exact q)
      have HBa := HBe
      obtain ⟨wa, rfl⟩ : ∃ wa : World, wa = wr := ⟨_, rfl⟩
      clear HO HBe hlt hk HO1 HB1
      go_wp2_with fail
      go_loopw [9, 1] (fun i y wr => ∃ j : Nat, j ≤ k ∧ i = .int .i64 ((l.length : Int) + k - 1 - j) ∧ y = .int .u64 ((x / 256 ^ j : Nat) : Int) ∧ wr.ownsRow w.heap.size 5 1 (.slice (some ⟨g, 0, none⟩) (l.length + k) capg) (l.length + k) (bv (midN l k x j)) ∧ Below w.heap.size w wr) (fun i _ _ => (intOf i + 1 - l.length).toNat)
      case atStart => exact ⟨0, Nat.zero_le _, by go_num, by simp, HOa.out, HBa.out⟩
      case round =>
        obtain ⟨j, hj, rfl, rfl, ho, hbel⟩ := hrel
        have HO := Lib.hid ho
        have HBe := Lib.hid hbel
        have zr := hbel.size
        clear ho hbel
        by_cases hlt : j < k
        · have c0 := HO.out.cellAt (l.length + k - 1 - j) (by omega)
          have f0 := HO.out.frozenAt (l.length + k - 1 - j)
          have hlen : l.length + k - 1 - j < (bv (midN l k x j)).length := by rw [bv_length, midN_length _ _ _ _ hj]; omega
          rw [List.getElem?_eq_getElem hlen] at c0
          generalize (bv (midN l k x j))[l.length + k - 1 - j] = old at c0
          have HS := Lib.hid (midN_set l k x j hlt)
          have HW : Hid (IntKind.u64.wrap (((x / 256 ^ j : Nat) : Int) / 256) = ((x / 256 ^ (j + 1) : Nat) : Int)) := by
            have e1 : x / 256 ^ (j + 1) = x / 256 ^ j / 256 := by rw [Nat.div_div_eq_div_mul, Nat.pow_succ]
            have e2 : x / 256 ^ j < 18446744073709551616 := Nat.lt_of_le_of_lt (Nat.div_le_self _ _) HX.out
            show IntKind.u64.wrap (((x / 256 ^ j : Nat) : Int) / 256) = ((x / 256 ^ (j + 1) : Nat) : Int)
            rw [e1, IntKind.wrap_u64]
            generalize x / 256 ^ j = y at *
            omega
          have HE : Hid (((x / 256 ^ j % 256 : Nat) : Int) = ((x / 256 ^ j : Nat) : Int) % 256) := Int.natCast_emod _ _
          clear hlen
          generalize x / 256 ^ j = y at *
          go_wp2_with fail
          refine ⟨⟨j + 1, by omega, by congr 1; omega, by rw [HW.out], ?_, HBe.out.setCell (by exact hgb) _⟩, by simp [intOf]; omega⟩
          have q := HO.out.stored (l.length + k - 1 - j) (.int .u8 ((y : Int) % 256))
          rw [← HE.out, HS.out] at q
          rw [← HE.out]
          exact q.1
        · obtain rfl : j = k := by omega
          have ho := HO.out
          rw [midN_all] at ho
          have HO2 : Hid (wr.ownsRow w.heap.size 5 1 (.slice (some ⟨g, 0, none⟩) (l.length + j) capg) (l ++ be j x).length (bv (l ++ be j x))) := by
            rw [List.length_append, be_length]; exact ho
          clear ho HO
          go_wp2
          go_ret
          exact ⟨_, rfl, HO2.out, HBe.out⟩

set_option maxHeartbeats 400000 in
theorem ref_num_put_not (v : Value) (x n : Int) (w : World) (h : n < 1 ∨ 8 < n) :
    Calls Try.prog 20 #[v, .int .u64 x, .int .i64 n] w fun e w' => e = .returned v ∧ w = w' := by
  by_cases h1 : n < 1
  · have d1 : decide (n < 1) = true := by simpa using h1
    go_enter Try.func20, Try.ntmps20
    go_wp2
    go_ret
    exact ⟨rfl, rfl⟩
  · have d1 : decide (n < 1) = false := by simpa using h1
    have d8 : decide (8 < n) = true := by simp; omega
    go_enter Try.func20, Try.ntmps20
    go_wp2
    go_ret
    exact ⟨rfl, rfl⟩
end Go.Proofs.Ytaobehhekdfkkaa

namespace Go.Proofs.Ytaobehhekdfkkaa
open Go.RowKit

def padN (n : Nat) : Nat := (16 - n % 16) % 16
/-- A text with bytes 0 behind. -/
def padB (b : List UInt8) : List UInt8 := b ++ List.replicate (padN b.length) 0
theorem padB_length (b : List UInt8) : (padB b).length = b.length + padN b.length := by simp [padB]
theorem padN_lt (n : Nat) : padN n ≤ 15 := by rw [padN]; omega
/-- A small number's bytes, so many of them. -/
def lenTo (n k : Nat) : List UInt8 := (List.range k).map fun i => UInt8.ofNat (n / 256 ^ i)
def lenB (n : Nat) : List UInt8 := lenTo n 8
theorem lenTo_length (n k : Nat) : (lenTo n k).length = k := by simp [lenTo]
theorem lenTo_succ (n k : Nat) : lenTo n (k + 1) = lenTo n k ++ [UInt8.ofNat (n / 256 ^ k)] := by simp [lenTo, List.range_succ]
theorem lenB_length (n : Nat) : (lenB n).length = 8 := lenTo_length n 8
/-- What is tagged. -/
def tagged (wth text : List UInt8) : List UInt8 := padB wth ++ padB text ++ lenB wth.length ++ lenB text.length
theorem tagged_length (wth text : List UInt8) : (tagged wth text).length ≤ wth.length + text.length + 46 := by
  have h1 := padN_lt wth.length
  have h2 := padN_lt text.length
  simp only [tagged, List.length_append, padB_length, lenB_length]
  omega
def boxTag (key nonce wth text : List UInt8) : List UInt8 := tagL ((blockC key nonce 0).take 32) (tagged wth text)
theorem boxTag_length (key nonce wth text : List UInt8) : (boxTag key nonce wth text).length = 16 := tagL_length _ _
/-- What a text is sealed to. -/
def sealC (key nonce wth msg : List UInt8) : List UInt8 := xorC key nonce 1 msg ++ boxTag key nonce wth (xorC key nonce 1 msg)
def nonceB (n : Nat) : List UInt8 := [0, 0, 0, 0] ++ be 8 n
theorem nonceB_length (n : Nat) : (nonceB n).length = 12 := by simp [nonceB, be_length]
theorem sealC_length (key nonce wth msg : List UInt8) : (sealC key nonce wth msg).length = msg.length + 16 := by
  rw [sealC, List.length_append, xorC_length, boxTag_length]

/-- Seal's answers and Open's, for keys and nonces of any length. -/
def seA (n0 n1 : Nat) (key nonce wth msg : List UInt8) : List UInt8 := if n0 ≠ 32 ∨ n1 ≠ 12 then [] else sealC key nonce wth msg
def seC (n0 n1 : Nat) : Int := if n0 ≠ 32 ∨ n1 ≠ 12 then 2 else 0
def goodTag (key nonce wth sealed : List UInt8) : Prop := boxTag key nonce wth (sealed.take (sealed.length - 16)) = sealed.drop (sealed.length - 16)
instance (key nonce wth sealed : List UInt8) : Decidable (goodTag key nonce wth sealed) := inferInstanceAs (Decidable (_ = _))
def opA (n0 n1 : Nat) (key nonce wth sealed : List UInt8) : List UInt8 :=
  if n0 ≠ 32 ∨ n1 ≠ 12 then [] else if sealed.length < 16 then [] else if goodTag key nonce wth sealed then xorC key nonce 1 (sealed.take (sealed.length - 16)) else []
def opC (n0 n1 : Nat) (key nonce wth sealed : List UInt8) : Int :=
  if n0 ≠ 32 ∨ n1 ≠ 12 then 2 else if sealed.length < 16 then 10 else if goodTag key nonce wth sealed then 0 else 21
end Go.Proofs.Ytaobehhekdfkkaa

namespace Go.Proofs.Ytaobehhekdfkkaa
open Go.RowKit

set_option maxHeartbeats 1000000 in
theorem refNonce_any (n : Nat) (hn : n < 18446744073709551616) (w : World) :
    Calls Try.prog 10 #[.int .u64 (n : Int)] w fun e w' => ∃ v', e = .returned v' ∧ BytesAt w' v' (nonceB n) ∧ Below w.heap.size w w' := by
  have z4 := BytesAt.lit w [0, 0, 0, 0] #[.int .u8 0, .int .u8 0, .int .u8 0, .int .u8 0] rfl
  have b4 : Below w.heap.size w (w.alloc (.cells #[.int .u8 0, .int .u8 0, .int .u8 0, .int .u8 0] 5)) := (Below.refl _ _).alloc (Nat.le_refl _) _
  have C := Lib.hid (ref_num_put _ [0, 0, 0, 0] 4 n 8 _ z4 (by decide) (by decide) (by decide) hn)
  have B4 := Lib.hid b4
  clear z4 b4
  go_enter Try.func10, Try.ntmps10
  go_wp2_with fail
  refine C.out.mono ?_
  rintro e w1 ⟨v1, rfl, o1, b1⟩
  have Y1 := Lib.hid (BytesAt.of_own o1)
  have B1 := Lib.hid (B4.out.trans (b1.mono B4.out.size))
  clear o1 b1
  go_wp2
  go_ret
  exact ⟨_, rfl, Y1.out, B1.out⟩

set_option maxHeartbeats 1000000 in
theorem refPadded_own (v : Value) (b : List UInt8) (w : World) (h : BytesAt w v b) (hl : b.length ≤ 1000000) :
    Calls Try.prog 37 #[v] w fun e w' => ∃ v', e = .returned v' ∧ w'.ownsRow w.heap.size 5 1 v' (padB b).length (bv (padB b)) ∧ Below w.heap.size w w' := by
  have HB := Lib.hid h
  obtain ⟨A, cap, rfl, hcap, -⟩ := h
  obtain ⟨i0, hi0, hz0, hz1, hz2⟩ := info_parts byte_info
  obtain ⟨P, hP⟩ : ∃ P, P = padN b.length := ⟨_, rfl⟩
  have HP := Lib.hid (And.intro hP (by rw [hP, padN] : P = (16 - b.length % 16) % 16))
  clear hP
  go_enter Try.func37, Try.ntmps37
  go_wp2_with (at_builtin; refine wpList_append_bytes rfl _ _ rfl w.heap.size _ 0 [] rfl (own_empty w) _ b rfl ?c1 ?c2 ?c3 ?_)
  case c1 => exact HB.out.below ((Below.refl _ _).alloc (Nat.le_refl _) _)
  case c2 => omega
  case c3 => simp
  intro v1 w1 o1 g1
  have B1 := Lib.hid (((Below.refl w.heap.size w).alloc (Nat.le_refl _) (.cells #[] 5)).grown g1 (by simp) (fun k hk => by simp [Value.ownBlock] at hk; omega))
  have O1 : Hid (w1.ownsRow w.heap.size 5 1 v1 (b.length + 0) (bv (b ++ List.replicate 0 0))) := Lib.hid (by simpa using o1)
  clear o1 g1
  go_wp2_with fail
  go_loopw [3] (fun u wr => ∃ k : Nat, k ≤ P ∧ wr.ownsRow w.heap.size 5 1 u (b.length + k) (bv (b ++ List.replicate k 0)) ∧ Below w.heap.size w wr) (fun u _ => 1000100 - sliceLen u)
  case atStart => exact ⟨0, Nat.zero_le _, O1.out, B1.out⟩
  case round =>
    obtain ⟨k, hk, ho, hb⟩ := hrel
    obtain ⟨Au, cu, rfl⟩ := own_form ho
    have HO := Lib.hid ho
    have HBe := Lib.hid hb
    have zr := Lib.hid hb.size
    clear ho hb O1 B1
    obtain ⟨m, hm⟩ : ∃ m, m = b.length + k := ⟨_, rfl⟩
    rw [← hm] at HO ⊢
    obtain ⟨q, hq⟩ : ∃ q, q = m % 16 := ⟨_, rfl⟩
    have r1 : (m : Int) % 16 = (q : Int) := by omega
    have HM := Lib.hid (And.intro hm hq)
    by_cases hlt : k < P
    · have d1 : decide ((0 : Int) < (q : Int)) = true := by simp; have := HP.out.2; omega
      have d2 : decide (0 < q) = true := by simp; have := HP.out.2; omega
      clear hm hq
      go_wp2_with (at_builtin; refine wpList_append_own _ rfl (.tmp 11) (.tmp 12) 22 rfl w.heap.size 5 i0 (.int .u8 0) 1 1 Try.underlying22 hi0 hz0 hz1 hz2 rfl (by decide) _ m _ rfl (HO.out.alloc _) ⟨wr.heap.size, 0, none⟩ 1 1 [.int .u8 0] rfl rfl ?c1 ?c2 ?c3 ?c4 ?c5 ?_)
      case c1 => exact cell_one_new _ _ _
      case c2 => intro u hu; simp at hu; subst hu; rfl
      case c3 => have h1 := HM.out; have h2 := HP.out.2; simp only [maxLen]; omega
      case c4 => have h1 := HM.out; have h2 := HP.out.2; omega
      case c5 => have := zr.out; simp; omega
      intro v' w2 o2 g2 _
      have hr := (HO.out.alloc (.cells #[.int .u8 0] 5)).lt
      have B2 := Lib.hid ((HBe.out.alloc zr.out (.cells #[.int .u8 0] 5)).grown g2 (by have := zr.out; simp; omega) (fun g hg => (hr g hg).1))
      obtain ⟨Av, cv, rfl⟩ := own_form o2
      have O2 : Hid (w2.ownsRow w.heap.size 5 1 (.slice Av (m + 1) cv) (b.length + (k + 1)) (bv (b ++ List.replicate (k + 1) 0))) := Lib.hid (by
        rw [List.replicate_succ', ← List.append_assoc, bv_append, ← Nat.add_assoc, ← HM.out.1]
        exact o2)
      clear o2 g2 hr r1
      go_wp2_with fail
      exact ⟨⟨k + 1, by omega, O2.out, B2.out⟩, by have h1 := HM.out; have h2 := HP.out.2; simp [sliceLen]; omega⟩
    · have d1 : decide ((0 : Int) < (q : Int)) = false := by simp; have := HP.out.2; omega
      have d2 : decide (0 < q) = false := by simp; have := HP.out.2; omega
      obtain rfl : k = P := by omega
      have O2 : Hid (wr.ownsRow w.heap.size 5 1 (.slice Au m cu) (padB b).length (bv (padB b))) := Lib.hid (by
        have q2 := HO.out
        rw [HP.out.1, show (b ++ List.replicate (padN b.length) 0) = padB b from rfl] at q2
        rw [padB_length, ← HP.out.1, ← hm]
        exact q2)
      clear HO
      have q0 : q = 0 := by have := HP.out.2; omega
      subst q0
      go_wp2
      go_ret
      exact ⟨_, rfl, O2.out, HBe.out⟩

set_option maxHeartbeats 1000000 in
theorem refLength_any (n : Nat) (hn : n ≤ 1000000) (w : World) :
    Calls Try.prog 38 #[.int .i64 (n : Int)] w fun e w' => ∃ v', e = .returned v' ∧ BytesAt w' v' (lenB n) ∧ Below w.heap.size w w' := by
  obtain ⟨i0, hi0, hz0, hz1, hz2⟩ := info_parts byte_info
  go_enter Try.func38, Try.ntmps38
  go_wp2_with fail
  go_loopw [0, 3, 4] (fun y u i wr => ∃ k : Nat, k ≤ 8 ∧ i = .int .i64 (k : Int) ∧ y = .int .i64 ((n / 256 ^ k : Nat) : Int) ∧ wr.ownsRow w.heap.size 5 1 u k (bv (lenTo n k)) ∧ Below w.heap.size w wr) (fun _ _ i _ => 8 - (intOf i).toNat)
  case atStart => exact ⟨0, by decide, rfl, by simp, World.ownsRow_nil _ _ _ _, Below.refl _ _⟩
  case round =>
    obtain ⟨k, hk, rfl, rfl, ho, hb⟩ := hrel
    obtain ⟨Au, cu, rfl⟩ := own_form ho
    have HO := Lib.hid ho
    have HBe := Lib.hid hb
    have zr := Lib.hid hb.size
    clear ho hb
    obtain ⟨y, hy⟩ : ∃ y, y = n / 256 ^ k := ⟨_, rfl⟩
    have hy1 : n / 256 ^ (k + 1) = y / 256 := by rw [hy, Nat.div_div_eq_div_mul, Nat.pow_succ]
    have yl : y ≤ 1000000 := by rw [hy]; exact Nat.le_trans (Nat.div_le_self _ _) hn
    rw [← hy]
    by_cases hlt : k < 8
    · have dk : decide ((k : Int) < 8) = true := by simp; omega
      have HS : Hid (lenTo n (k + 1) = lenTo n k ++ [UInt8.ofNat y]) := Lib.hid (by rw [lenTo_succ, hy])
      have HY1 := Lib.hid hy1
      obtain ⟨c, hc⟩ : ∃ c, c = UInt8.ofNat y := ⟨_, rfl⟩
      have r1 : IntKind.u8.wrap ((y : Int) % 256) = (c.toNat : Int) := by rw [hc, IntKind.wrap_u8]; simp
      rw [← hc] at HS
      clear hy hy1 hc
      go_wp2_with (at_builtin; refine wpList_append_own _ rfl (.tmp 9) (.tmp 13) 22 rfl w.heap.size 5 i0 (.int .u8 0) 1 1 Try.underlying22 hi0 hz0 hz1 hz2 rfl (by decide) _ k _ rfl (HO.out.alloc _) ⟨wr.heap.size, 0, none⟩ 1 1 [.int .u8 (c.toNat : Int)] rfl rfl ?c1 ?c2 ?c3 ?c4 ?c5 ?_)
      case c1 => exact cell_one_new _ _ _
      case c2 => intro u hu; simp at hu; subst hu; rfl
      case c3 => simp only [maxLen]; omega
      case c4 => omega
      case c5 => have := zr.out; simp; omega
      intro v' w2 o2 g2 _
      have hr := (HO.out.alloc (.cells #[.int .u8 (c.toNat : Int)] 5)).lt
      have B2 := Lib.hid ((HBe.out.alloc zr.out (.cells #[.int .u8 (c.toNat : Int)] 5)).grown g2 (by have := zr.out; simp; omega) (fun g hg => (hr g hg).1))
      obtain ⟨Av, cv, rfl⟩ := own_form o2
      have O2 : Hid (w2.ownsRow w.heap.size 5 1 (.slice Av (k + 1) cv) (k + 1) (bv (lenTo n (k + 1)))) := Lib.hid (by
        rw [HS.out, bv_append]
        exact o2)
      clear o2 g2 hr r1
      go_wp2_with fail
      exact ⟨⟨k + 1, by omega, by go_num, by rw [HY1.out]; go_num, O2.out, B2.out⟩, by simp [intOf]; omega⟩
    · have dk : decide ((k : Int) < 8) = false := by simp; omega
      obtain rfl : k = 8 := by omega
      have Y : Hid (BytesAt wr (.slice Au 8 cu) (lenB n)) := Lib.hid (BytesAt.of_own (base := w.heap.size) (by rw [lenB_length]; exact HO.out))
      clear HO
      go_wp2
      go_ret
      exact ⟨_, rfl, Y.out, HBe.out⟩
end Go.Proofs.Ytaobehhekdfkkaa

namespace Go.Proofs.Ytaobehhekdfkkaa
open Go.RowKit

set_option maxRecDepth 100000 in
set_option maxHeartbeats 2000000 in
theorem refBoxTag_any (A0 A1 A2 A3 : Option Addr) (n2 n3 cap0 cap1 cap2 cap3 : Nat) (key nonce wth text : List UInt8) (w : World) (hn2 : n2 ≤ 100000) (hn3 : n3 ≤ 100000)
    (h0 : BytesAt w (.slice A0 32 cap0) key) (h1 : BytesAt w (.slice A1 12 cap1) nonce) (h2 : BytesAt w (.slice A2 n2 cap2) wth) (h3 : BytesAt w (.slice A3 n3 cap3) text) :
    Calls Try.prog 18 #[.slice A0 32 cap0, .slice A1 12 cap1, .slice A2 n2 cap2, .slice A3 n3 cap3] w fun e w' => ∃ v', e = .returned v' ∧ BytesAt w' v' (boxTag key nonce wth text) ∧ Below w.heap.size w w' := by
  obtain ⟨rfl, k2⟩ := h2.size
  obtain ⟨rfl, k3⟩ := h3.size
  have C : Hid (Calls Try.prog 36 #[.slice A0 32 cap0, .slice A1 12 cap1, .int .u32 0] w _) := Lib.hid (refBlock_any A0 A1 cap0 cap1 key nonce 0 w h0 h1)
  have H2 := Lib.hid h2
  have H3 := Lib.hid h3
  have LK := Lib.hid (blockC_length key nonce 0)
  have E : Hid (tagL ((blockC key nonce 0).take 32) (padB wth ++ padB text ++ lenB wth.length ++ lenB text.length) = boxTag key nonce wth text) := Lib.hid rfl
  obtain ⟨B, hB⟩ : ∃ B, B = blockC key nonce 0 := ⟨_, rfl⟩
  rw [← hB] at C LK E
  have p2 := padB_length wth
  have p3 := padB_length text
  have q2 := padN_lt wth.length
  have q3 := padN_lt text.length
  have PL := Lib.hid (show (padB wth).length ≤ 100015 ∧ (padB text).length ≤ 100015 from ⟨by omega, by omega⟩)
  clear hB h0 h1 h2 h3 p2 p3 q2 q3
  go_enter Try.func18, Try.ntmps18
  go_wp2_with fail
  refine C.out.mono ?_
  rintro e w1 ⟨v1, rfl, y1, b1⟩
  have Y1 := Lib.hid (BytesAt.of_own (base := w.heap.size) (by rw [LK.out]; exact y1))
  obtain ⟨Ab, capb, rfl⟩ := own_form y1
  have B1 := Lib.hid b1
  clear y1 b1 C
  have CP := Lib.hid (refPadded_own _ wth w1 (H2.out.below B1.out) (by omega))
  go_wp2_with fail
  refine CP.out.mono ?_
  rintro e w2 ⟨v2, rfl, o2, b2⟩
  have O2 := Lib.hid o2
  have D2 := Lib.hid b2
  clear o2 b2 CP
  have CP := Lib.hid (refPadded_own _ text w2 (H3.out.below (B1.out.trans (D2.out.mono B1.out.size))) (by omega))
  go_wp2_with fail
  refine CP.out.mono ?_
  rintro e w3 ⟨v3, rfl, o3, b3⟩
  have O3 := Lib.hid (kept_below O2.out b3 rfl)
  have Z3 := Lib.hid (BytesAt.of_own o3)
  have D3 := Lib.hid (D2.out.trans (b3.mono D2.out.size))
  clear o3 b3 CP D2 O2
  go_wp2_with (at_builtin; refine wpList_append_bytes rfl _ _ rfl w1.heap.size _ _ _ rfl O3.out _ (padB text) rfl Z3.out ?c2 ?c3 ?_)
  case c2 => have := PL.out; omega
  case c3 => exact D3.out.size
  intro v4 w4 o4 g4
  have O4 : Hid (w4.ownsRow w1.heap.size 5 1 v4 ((padB wth).length + (padB text).length) (bv (padB wth ++ padB text))) := Lib.hid (by rw [bv_append]; exact o4)
  have D4 := Lib.hid (D3.out.grown g4 D3.out.size (fun k hk => (O3.out.lt k hk).1))
  clear o4 g4 O3 Z3 D3
  have CL := Lib.hid (refLength_any wth.length (by omega) w4)
  go_wp2_with fail
  refine CL.out.mono ?_
  rintro e w5 ⟨v5, rfl, y5, b5⟩
  have O5 := Lib.hid (kept_below O4.out b5 rfl)
  have Z5 := Lib.hid y5
  have D5 := Lib.hid (D4.out.trans (b5.mono D4.out.size))
  clear y5 b5 CL O4 D4
  go_wp2_with (at_builtin; refine wpList_append_bytes rfl _ _ rfl w1.heap.size _ _ _ rfl O5.out _ (lenB wth.length) rfl Z5.out ?c2 ?c3 ?_)
  case c2 => have := PL.out; rw [lenB_length]; omega
  case c3 => exact D5.out.size
  intro v6 w6 o6 g6
  have O6 : Hid (w6.ownsRow w1.heap.size 5 1 v6 ((padB wth).length + (padB text).length + 8) (bv (padB wth ++ padB text ++ lenB wth.length))) := Lib.hid (by
    rw [lenB_length] at o6
    rw [bv_append (padB wth ++ padB text)]
    exact o6)
  have D6 := Lib.hid (D5.out.grown g6 D5.out.size (fun k hk => (O5.out.lt k hk).1))
  clear o6 g6 O5 Z5 D5
  have CL := Lib.hid (refLength_any text.length (by omega) w6)
  go_wp2_with fail
  refine CL.out.mono ?_
  rintro e w7 ⟨v7, rfl, y7, b7⟩
  have O7 := Lib.hid (kept_below O6.out b7 rfl)
  have Z7 := Lib.hid y7
  have D7 := Lib.hid (D6.out.trans (b7.mono D6.out.size))
  clear y7 b7 CL O6 D6
  go_wp2_with (at_builtin; refine wpList_append_bytes rfl _ _ rfl w1.heap.size _ _ _ rfl O7.out _ (lenB text.length) rfl Z7.out ?c2 ?c3 ?_)
  case c2 => have := PL.out; rw [lenB_length]; omega
  case c3 => exact D7.out.size
  intro v8 w8 o8 g8
  obtain ⟨M, hM⟩ : ∃ M, M = padB wth ++ padB text ++ lenB wth.length ++ lenB text.length := ⟨_, rfl⟩
  have ML : M.length = (padB wth).length + (padB text).length + 8 + 8 := by rw [hM]; simp only [List.length_append, lenB_length]
  rw [← hM] at E
  have O8 : w8.ownsRow w1.heap.size 5 1 v8 M.length (bv M) := by
    rw [lenB_length, ← List.append_assoc] at o8
    rw [ML, hM, bv_append (padB wth ++ padB text ++ lenB wth.length)]
    exact o8
  have D8 := Lib.hid (D7.out.grown g8 D7.out.size (fun k hk => (O7.out.lt k hk).1))
  obtain ⟨Am, capm, rfl⟩ := own_form O8
  have Y8 := Lib.hid ((Y1.out.below D8.out).first 32 (by decide))
  have kb : (32 : Int) ≤ (capb : Int) := by have := Y1.out.size.2; omega
  have M8 := Lib.hid (BytesAt.of_own O8)
  have CT := Lib.hid (refTag_any Ab Am M.length capb capm (B.take 32) M (by rw [ML]; have := PL.out; omega) w8 Y8.out M8.out)
  rw [E.out] at CT
  have B8 := Lib.hid (B1.out.trans (D8.out.mono B1.out.size))
  clear o8 g8 O7 Z7 D7 hM ML O8 Y8 M8 Y1 D8 B1 E
  go_wp2_with fail
  refine CT.out.mono ?_
  rintro e w9 ⟨v9, rfl, y9, b9⟩
  have Y9 := Lib.hid y9
  have B9 := Lib.hid (B8.out.trans (b9.mono B8.out.size))
  clear y9 b9 CT
  go_wp2
  go_ret
  exact ⟨_, rfl, Y9.out, B9.out⟩
end Go.Proofs.Ytaobehhekdfkkaa
