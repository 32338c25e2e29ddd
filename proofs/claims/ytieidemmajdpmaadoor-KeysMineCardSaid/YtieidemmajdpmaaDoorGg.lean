/- Over XGenA's words: plain mathematics of package pack: a number's lowest bytes, the highest first, and the number that bytes are. It speaks of no program. Over XGenA's words: what pack.Num and the document's Num (carcanetref01) put. Over XGenA's words: what pack.Text and the document's Text (carcanetref01) put. -/
import Derived.Test.YtieidemmajdpmaaDoorGa
import Derived.Laws.BitsAllLaws
import Derived.Test.YtieidemmajdpmaaDoorGc
import Derived.Lib.AppendStr
import Derived.Deep.DeepCutAuto
import Derived.Deep.LoopGhost
import Derived.ChangeAlike
namespace Go.Proofs.YtieidemmajdpmaaDoor
set_option maxRecDepth 100000

/-- The j-th of the lowest size bytes of x, the highest first. -/
def beAt (size x j : Nat) : UInt8 := UInt8.ofNat (x / 2 ^ (8 * (size - 1 - j)) % 256)
/-- The first k of them. -/
def beTo (size x : Nat) : Nat → List UInt8
  | 0 => []
  | k + 1 => beTo size x k ++ [beAt size x k]
def be (size x : Nat) : List UInt8 := beTo size x size

theorem beTo_length (size x k : Nat) : (beTo size x k).length = k := by
  induction k with
  | zero => rfl
  | succ k ih => simp [beTo, ih]
theorem be_length (size x : Nat) : (be size x).length = size := beTo_length size x size

theorem beAt_cell (size x k : Nat) : bv [beAt size x k] = [Value.int .u8 ((x : Int) / 2 ^ (8 * (size - 1 - k)) % 256)] := by
  have h : ((beAt size x k).toNat : Int) = (x : Int) / 2 ^ (8 * (size - 1 - k)) % 256 := by
    simp [beAt]
  simp [bv, h]
/-- The number that bytes are, the highest first. -/
def ofBe (l : List UInt8) : Nat := l.foldl (fun n c => n * 256 + c.toNat) 0
theorem ofBe_snoc (l : List UInt8) (c : UInt8) : ofBe (l ++ [c]) = ofBe l * 256 + c.toNat := by simp [ofBe]
theorem foldBe_lt (l : List UInt8) : ∀ n : Nat, l.foldl (fun n c => n * 256 + c.toNat) n < (n + 1) * 256 ^ l.length := by
  induction l with
  | nil => intro n; simp
  | cons c l ih =>
    intro n
    have h := ih (n * 256 + c.toNat)
    have hc := c.toNat_lt
    simp only [List.foldl_cons, List.length_cons, Nat.pow_succ]
    have h2 : (n * 256 + c.toNat + 1) * 256 ^ l.length ≤ ((n + 1) * 256) * 256 ^ l.length := Nat.mul_le_mul_right _ (by omega)
    have h3 : ((n + 1) * 256) * 256 ^ l.length = (n + 1) * (256 ^ l.length * 256) := by rw [Nat.mul_assoc, Nat.mul_comm 256]
    omega
theorem ofBe_lt (l : List UInt8) : ofBe l < 256 ^ l.length := by
  have := foldBe_lt l 0
  simpa [ofBe] using this
theorem or_byte (a c : Nat) (hc : c < 256) (h : a * 256 + c < 18446744073709551616) :
    bits .or .u64 (IntKind.u64.wrap ((a : Int) * 256)) (IntKind.u64.wrap (c : Int)) = ((a * 256 + c : Nat) : Int) := by
  have k1 : a * 256 < 18446744073709551616 := Nat.lt_of_le_of_lt (Nat.le_add_right _ c) h
  have k2 : c < 18446744073709551616 := Nat.lt_of_le_of_lt (Nat.le_add_left c (a * 256)) h
  have e1 : IntKind.u64.wrap ((a : Int) * 256) = ((a * 256 : Nat) : Int) := by rw [IntKind.wrap_u64]; clear h; omega
  have e2 : IntKind.u64.wrap (c : Int) = (c : Int) := by rw [IntKind.wrap_u64]; clear h; omega
  rw [e1, e2, u64_or_nat (a * 256) c k1 k2]
  clear e1 e2
  have h2 : 2 ^ 8 * a + c = 2 ^ 8 * a ||| c := Nat.two_pow_add_eq_or_of_lt (i := 8) (by omega) a
  have e3 : 2 ^ 8 * a = a * 256 := by omega
  rw [e3] at h2
  rw [h2]
theorem take_one_more (s : ByteArray) (k : Nat) (h : k < s.size) : s.data.toList.take (k + 1) = s.data.toList.take k ++ [s[k]] := by
  rw [List.take_succ_eq_append_getElem (by simpa using h)]; rfl
theorem ofBe_take (s : ByteArray) (k : Nat) (h : k < s.size) (h8 : s.size ≤ 8) :
    bits .or .u64 (IntKind.u64.wrap ((ofBe (s.data.toList.take k) : Int) * 256)) (IntKind.u64.wrap (s[k].toNat : Int)) = (ofBe (s.data.toList.take (k + 1)) : Int) := by
  have hb := ofBe_lt (s.data.toList.take (k + 1))
  have hp : 256 ^ (s.data.toList.take (k + 1)).length ≤ 256 ^ 8 := Nat.pow_le_pow_right (by omega) (by simp; omega)
  rw [take_one_more s k h, ofBe_snoc] at *
  exact or_byte _ _ s[k].toNat_lt (Nat.lt_of_lt_of_le hb (Nat.le_trans hp (by decide)))
theorem add_take (s : ByteArray) (k : Nat) (h : k < s.size) (h8 : s.size ≤ 8) :
    IntKind.u64.wrap (IntKind.u64.wrap ((ofBe (s.data.toList.take k) : Int) * 256) + IntKind.u64.wrap (s[k].toNat : Int)) = (ofBe (s.data.toList.take (k + 1)) : Int) := by
  have hb := ofBe_lt (s.data.toList.take (k + 1))
  have hp : 256 ^ (s.data.toList.take (k + 1)).length ≤ 256 ^ 8 := Nat.pow_le_pow_right (by omega) (by simp; omega)
  have hlt : ofBe (s.data.toList.take (k + 1)) < 18446744073709551616 := Nat.lt_of_lt_of_le hb (Nat.le_trans hp (by decide))
  clear hb hp
  rw [take_one_more s k h, ofBe_snoc] at *
  generalize ofBe (s.data.toList.take k) = a at *
  generalize s[k].toNat = c at *
  simp only [IntKind.wrap_u64]
  have e : (((a : Int) * 256) % 18446744073709551616 + (c : Int) % 18446744073709551616) % 18446744073709551616 = ((a : Int) * 256 + c) % 18446744073709551616 := by rw [← Int.add_emod]
  rw [e]
  have e2 : ((a : Int) * 256 + c) = ((a * 256 + c : Nat) : Int) := by simp
  rw [e2]
  generalize a * 256 + c = m at *
  omega
theorem ext_take (l : List UInt8) (n : Nat) : (⟨l.toArray⟩ : ByteArray).extract 0 n = ⟨(l.take n).toArray⟩ := by
  apply ByteArray.ext; simp
/-- What a text is cut to. -/
def cutText (s : ByteArray) : ByteArray := s.extract 0 (min s.size 65535)
end Go.Proofs.YtieidemmajdpmaaDoor

namespace Go.Proofs.YtieidemmajdpmaaDoor
set_option maxRecDepth 100000
open Go.RowKit

set_option maxHeartbeats 400000 in
theorem fits_yes (n : Int) (w : World) (h1 : 1 ≤ n) (h2 : n ≤ 8) :
    Calls Tryd.prog 35 #[.int .i64 n] w fun e w' => e = .returned (.bool true) ∧ w = w' := by
  go_enter Tryd.func35, Tryd.ntmps35
  go_wp2
  go_ret
  exact ⟨rfl, rfl⟩

set_option maxHeartbeats 400000 in
theorem put_num (base : Nat) (v : Value) (l : List UInt8) (x size : Nat) (w : World) (h1 : 1 ≤ size) (h8 : size ≤ 8)
    (hown : w.ownsRow base 5 1 v l.length (bv l)) (hb : base ≤ w.heap.size) (hl : l.length ≤ 1000000) :
    Calls Tryd.prog 27 #[v, .int .u64 x, .int .i64 size] w fun e w' =>
      ∃ v', e = .returned v' ∧ w'.ownsRow base 5 1 v' (l.length + size) (bv (l ++ be size x)) ∧ Below base w w' := by
  obtain ⟨i0, hi0, hz0, hz1, hz2⟩ := info_parts byte_info
  go_enter Tryd.func27, Tryd.ntmps27
  go_wp2_with fail
  refine (fits_yes _ _ (by omega) (by omega)).mono ?_
  rintro e w1 ⟨rfl, rfl⟩
  go_wp2_with fail
  have Hown := Lib.hid hown
  clear hown
  go_loopw [0, 13] (fun u i wr => ∃ k : Nat, k ≤ size ∧ i = .int .i64 k ∧ wr.ownsRow base 5 1 u (l.length + k) (bv (l ++ beTo size x k)) ∧ Below base w wr) (fun _ i _ => size - (intOf i).toNat)
  case atStart => exact ⟨0, Nat.zero_le _, rfl, by simpa [beTo] using Hown.out, Below.refl _ _⟩
  case round =>
    obtain ⟨k, hk, rfl, ho, hbel⟩ := hrel
    have hbs := hbel.size
    by_cases hlt : k < size
    · go_wp2_with (at_builtin; refine wpList_append_own _ rfl (.tmp 16) (.tmp 25) 32 rfl base 5 i0 (.int .u8 0) 1 1 Tryd.underlying32 hi0 hz0 hz1 hz2 rfl (by decide) _ (l.length + k) _ rfl (ho.alloc _) ⟨wr.heap.size, 0, none⟩ 1 1 [.int .u8 ((x : Int) / 2 ^ (8 * (size - 1 - k)) % 256)] rfl rfl ?c1 ?c2 ?c3 ?c4 ?c5 ?_)
      case c1 => exact cell_one_new _ _ _
      case c2 => intro u hu; simp at hu; subst hu; rfl
      case c3 => simp only [maxLen]; omega
      case c4 => omega
      case c5 => simp; omega
      intro v' w1 ho' hg _
      have hr := (ho.alloc (.cells #[.int .u8 ((x : Int) / 2 ^ (8 * (size - 1 - k)) % 256)] 5)).lt
      have hbel' : Below base w w1 := (hbel.alloc (by omega) _).grown hg (by simp; omega) (fun g hg => (hr g hg).1)
      have ho2 : w1.ownsRow base 5 1 v' (l.length + (k + 1)) (bv (l ++ beTo size x (k + 1))) := by
        rw [beTo, ← List.append_assoc, bv_append, beAt_cell]
        exact ho'
      have HO := Lib.hid ho2
      clear ho2 ho' hg ho hr
      go_wp2
      go_roundw
      case rel => exact ⟨k + 1, by omega, by go_num, HO.out, hbel'⟩
      case measure => simp [intOf]; omega
    · obtain rfl : k = size := by omega
      have HO := Lib.hid ho
      clear ho
      go_wp2
      go_ret
      exact ⟨_, rfl, HO.out, hbel⟩

theorem be_eq (size x : Nat) : be size x = (List.range size).map (beAt size x) := by
  have h : ∀ k, beTo size x k = (List.range k).map (beAt size x) := by
    intro k
    induction k with
    | zero => rfl
    | succ k ih => rw [beTo, ih, List.range_succ, List.map_append]; rfl
  exact h size
theorem be_succ (j x : Nat) : be (j + 1) x = UInt8.ofNat (x / 256 ^ j % 256) :: be j x := by
  rw [be_eq, be_eq, List.range_succ_eq_map, List.map_cons, List.map_map]
  congr 1
  · simp only [beAt]
    rw [show (256 : Nat) = 2 ^ 8 from rfl, ← Nat.pow_mul]
    simp
  · apply List.map_congr_left
    intro i _
    simp only [Function.comp, beAt]
    have : j + 1 - 1 - i.succ = j - 1 - i := by omega
    rw [this]

/-- The bytes while the number is written from its end. -/
def midN (l : List UInt8) (size x j : Nat) : List UInt8 := l ++ (List.replicate (size - j) 0 ++ be j x)
theorem midN_length (l : List UInt8) (size x j : Nat) (h : j ≤ size) : (midN l size x j).length = l.length + size := by
  simp [midN, be_length]; omega
theorem midN_zero (l : List UInt8) (size x : Nat) : midN l size x 0 = l ++ List.replicate size 0 := by simp [midN, be, beTo]
theorem midN_all (l : List UInt8) (size x : Nat) : midN l size x size = l ++ be size x := by simp [midN]
theorem midN_set (l : List UInt8) (size x j : Nat) (h : j < size) :
    (bv (midN l size x j)).set (l.length + size - 1 - j) (.int .u8 (((x / 256 ^ j % 256 : Nat)) : Int)) = bv (midN l size x (j + 1)) := by
  have e1 : size - j = (size - (j + 1)) + 1 := by omega
  rw [midN, midN, be_succ, e1, List.replicate_succ']
  simp only [bv, List.map_append, List.map_cons, List.map_nil, List.append_assoc]
  have e2 : l.length + size - 1 - j = (l.map fun c => Value.int .u8 (c.toNat : Int)).length + (size - (j + 1)) := by simp; omega
  rw [e2, List.set_append_right _ _ (by omega), Nat.add_sub_cancel_left]
  congr 1
  rw [List.set_append_right _ _ (by simp)]
  simp

set_option maxHeartbeats 1000000 in
theorem ref_num_put (A : Option Addr) (l : List UInt8) (cap x size : Nat) (w : World) (hb : BytesAt w (.slice A l.length cap) l) (h1 : 1 ≤ size) (h8 : size ≤ 8) (hl : l.length ≤ 3000) (hx : x < 18446744073709551616) :
    Calls Tryd.prog 16 #[.slice A l.length cap, .int .u64 x, .int .i64 size] w fun e w' =>
      ∃ v', e = .returned v' ∧ w'.ownsRow w.heap.size 5 1 v' (l ++ be size x).length (bv (l ++ be size x)) ∧ Below w.heap.size w w' := by
  have HB := Lib.hid hb
  have HX := Lib.hid hx
  clear hb hx
  obtain ⟨i0, hi0, hz0, hz1, hz2⟩ := info_parts byte_info
  have d1 : decide ((size : Int) < 1) = false := by simp; omega
  have d8 : decide ((8 : Int) < (size : Int)) = false := by simp; omega
  go_enter Tryd.func16, Tryd.ntmps16
  go_wp2_with (at_builtin; refine wpList_append_bytes rfl (.tmp 17) (.tmp 18) rfl w.heap.size _ 0 [] rfl (own_empty w) _ l rfl ?c1 ?c2 ?c3 ?_)
  case c1 => exact HB.out.below ((Below.refl _ _).alloc (Nat.le_refl _) _)
  case c2 => omega
  case c3 => simp
  intro v1 w1 ho1 hg1
  have hb1 : Below w.heap.size w w1 := ((Below.refl _ _).alloc (Nat.le_refl _) _).grown hg1 (by simp) (fun k hk => by simp [Value.ownBlock] at hk; omega)
  have HO1 := Lib.hid ho1
  have HB1 := Lib.hid hb1
  clear ho1 hg1 hb1
  go_wp2_with fail
  go_loopw [7, 8] (fun u i wr => ∃ k : Nat, k ≤ size ∧ i = .int .i64 k ∧ wr.ownsRow w.heap.size 5 1 u (l.length + k) (bv (l ++ List.replicate k 0)) ∧ Below w.heap.size w wr) (fun _ i _ => size - (intOf i).toNat)
  case atStart => exact ⟨0, Nat.zero_le _, rfl, by simpa using HO1.out, HB1.out⟩
  case round =>
    obtain ⟨k, hk, rfl, ho, hbel⟩ := hrel
    have HO := Lib.hid ho
    have HBe := Lib.hid hbel
    have zr := hbel.size
    clear ho hbel
    by_cases hlt : k < size
    · go_wp2_with (at_builtin; refine wpList_append_own _ rfl (.tmp 25) (.tmp 26) 32 rfl w.heap.size 5 i0 (.int .u8 0) 1 1 Tryd.underlying32 hi0 hz0 hz1 hz2 rfl (by decide) _ (l.length + k) _ rfl (HO.out.alloc _) ⟨wr.heap.size, 0, none⟩ 1 1 [.int .u8 0] rfl rfl ?c1 ?c2 ?c3 ?c4 ?c5 ?_)
      case c1 => exact cell_one_new _ _ _
      case c2 => intro u hu; simp at hu; subst hu; rfl
      case c3 => simp only [maxLen]; omega
      case c4 => omega
      case c5 => simp; omega
      intro v' w2 ho' hg _
      have hr := (HO.out.alloc (.cells #[.int .u8 0] 5)).lt
      have hbel' : Below w.heap.size w w2 := (HBe.out.alloc (by omega) _).grown hg (by simp; omega) (fun g hg => (hr g hg).1)
      have ho2 : w2.ownsRow w.heap.size 5 1 v' (l.length + (k + 1)) (bv (l ++ List.replicate (k + 1) 0)) := by
        rw [List.replicate_succ', ← List.append_assoc, bv_append]
        exact ho'
      have HO2 := Lib.hid ho2
      have HB2 := Lib.hid hbel'
      clear ho2 ho' hg hr hbel'
      go_wp2
      go_roundw
      case rel => exact ⟨k + 1, by omega, by go_num, HO2.out, HB2.out⟩
      case measure => simp [intOf]; omega
    · obtain rfl : k = size := by omega
      obtain ⟨g, capg, hv, hgb, hgl⟩ := HO.out.form (by omega)
      obtain rfl := hv
      have HOa := Lib.hid (by have q := HO.out; rw [← midN_zero l k x] at q; exact q)
      have HBa := HBe
      obtain ⟨wa, rfl⟩ : ∃ wa : World, wa = wr := ⟨_, rfl⟩
      clear HO HBe hlt hk HO1 HB1
      go_wp2_with fail
      go_loopw [9, 1] (fun i y wr => ∃ j : Nat, j ≤ k ∧ i = .int .i64 ((l.length : Int) + k - 1 - j) ∧ y = .int .u64 ((x / 256 ^ j : Nat) : Int) ∧ wr.ownsRow w.heap.size 5 1 (.slice (some ⟨g, 0, none⟩) (l.length + k) capg) (l.length + k) (bv (midN l k x j)) ∧ Below w.heap.size w wr) (fun i _ _ => (intOf i + 1 - l.length).toNat)
      case atStart => exact ⟨0, Nat.zero_le _, by go_num, by simp, HOa.out, HBa.out⟩
      case round =>
        obtain ⟨j, hj, rfl, rfl, ho, hbel⟩ := hrel
        have HO := Lib.hid ho
        have HBe := Lib.hid hbel
        have zr := hbel.size
        clear ho hbel
        by_cases hlt : j < k
        · have c0 := HO.out.cellAt (l.length + k - 1 - j) (by omega)
          have f0 := HO.out.frozenAt (l.length + k - 1 - j)
          have hlen : l.length + k - 1 - j < (bv (midN l k x j)).length := by rw [bv_length, midN_length _ _ _ _ hj]; omega
          rw [List.getElem?_eq_getElem hlen] at c0
          generalize (bv (midN l k x j))[l.length + k - 1 - j] = old at c0
          have HS := Lib.hid (midN_set l k x j hlt)
          have HW : Hid (IntKind.u64.wrap (((x / 256 ^ j : Nat) : Int) / 256) = ((x / 256 ^ (j + 1) : Nat) : Int)) := by
            have e1 : x / 256 ^ (j + 1) = x / 256 ^ j / 256 := by rw [Nat.div_div_eq_div_mul, Nat.pow_succ]
            have e2 : x / 256 ^ j < 18446744073709551616 := Nat.lt_of_le_of_lt (Nat.div_le_self _ _) HX.out
            show IntKind.u64.wrap (((x / 256 ^ j : Nat) : Int) / 256) = ((x / 256 ^ (j + 1) : Nat) : Int)
            rw [e1, IntKind.wrap_u64]
            generalize x / 256 ^ j = y at *
            omega
          have HE : Hid (((x / 256 ^ j % 256 : Nat) : Int) = ((x / 256 ^ j : Nat) : Int) % 256) := Int.natCast_emod _ _
          clear hlen
          generalize x / 256 ^ j = y at *
          go_wp2_with fail
          refine ⟨⟨j + 1, by omega, by congr 1; omega, by rw [HW.out], ?_, HBe.out.setCell (by exact hgb) _⟩, by simp [intOf]; omega⟩
          have q := HO.out.stored (l.length + k - 1 - j) (.int .u8 ((y : Int) % 256))
          rw [← HE.out, HS.out] at q
          rw [← HE.out]
          exact q.1
        · obtain rfl : j = k := by omega
          have ho := HO.out
          rw [midN_all] at ho
          have HO2 : Hid (wr.ownsRow w.heap.size 5 1 (.slice (some ⟨g, 0, none⟩) (l.length + j) capg) (l ++ be j x).length (bv (l ++ be j x))) := by
            rw [List.length_append, be_length]; exact ho
          clear ho HO
          go_wp2
          go_ret
          exact ⟨_, rfl, HO2.out, HBe.out⟩

set_option maxHeartbeats 400000 in
theorem ref_num_put_not (v : Value) (x n : Int) (w : World) (h : n < 1 ∨ 8 < n) :
    Calls Tryd.prog 16 #[v, .int .u64 x, .int .i64 n] w fun e w' => e = .returned v ∧ w = w' := by
  by_cases h1 : n < 1
  · have d1 : decide (n < 1) = true := by simpa using h1
    go_enter Tryd.func16, Tryd.ntmps16
    go_wp2
    go_ret
    exact ⟨rfl, rfl⟩
  · have d1 : decide (n < 1) = false := by simpa using h1
    have d8 : decide (8 < n) = true := by simp; omega
    go_enter Tryd.func16, Tryd.ntmps16
    go_wp2
    go_ret
    exact ⟨rfl, rfl⟩
end Go.Proofs.YtieidemmajdpmaaDoor

namespace Go.Proofs.YtieidemmajdpmaaDoor
set_option maxRecDepth 100000
open Go.RowKit

/-- A text, as it is put. -/
def encS (s : ByteArray) : List UInt8 := be 2 s.size ++ s.data.toList
theorem encS_length (s : ByteArray) : (encS s).length = 2 + s.size := by simp [encS, be_length]

set_option maxHeartbeats 400000 in
theorem put_text (base : Nat) (v : Value) (l : List UInt8) (s : ByteArray) (w : World) (hs : s.size ≤ 9223372036854775807)
    (hown : w.ownsRow base 5 1 v l.length (bv l)) (hb : base ≤ w.heap.size) (hl : l.length ≤ 900000) :
    Calls Tryd.prog 28 #[v, .string s] w fun e w' =>
      ∃ v', e = .returned v' ∧ w'.ownsRow base 5 1 v' (l.length + 2 + (cutText s).size) (bv (l ++ be 2 (cutText s).size ++ (cutText s).data.toList)) ∧ Below base w w' := by
  obtain ⟨i0, hi0, hz0, hz1, hz2⟩ := info_parts byte_info
  by_cases hlt : s.size ≤ 65535
  · have hcut : cutText s = s := by
      rw [cutText, Nat.min_eq_left hlt]; exact ByteArray.extract_zero_size
    rw [hcut]
    clear hcut
    go_enter Tryd.func28, Tryd.ntmps28
    go_wp2_with fail
    refine (put_num base v l s.size 2 w (by omega) (by omega) hown hb (by omega)).mono ?_
    rintro e w1 ⟨v1, rfl, ho1, hb1⟩
    have hbs := hb1.size
    go_wp2_with (at_builtin; refine Lib.wpList_append_own_string _ rfl (.tmp 14) (.tmp 15) 32 9 rfl base 5 i0 Tryd.underlying32 Tryd.underlying9 hi0 hz0 hz1 hz2 v1 (l.length + 2) _ rfl ho1 s rfl ?c1 ?c2 ?c3 ?_)
    case c1 => simp only [maxLen]; omega
    case c2 => omega
    case c3 => omega
    intro v2 w2 ho2 hg2 _
    have hbel : Below base w w2 := hb1.grown hg2 (by omega) (fun k hk => (ho1.lt k hk).1)
    have e1 : Lib.strCells s = bv s.data.toList := rfl
    rw [e1, ← bv_append] at ho2
    have HO := Lib.hid ho2
    clear ho2 hg2 ho1 e1
    go_wp2
    go_ret
    exact ⟨_, rfl, HO.out, hbel⟩
  · have hmin : min s.size 65535 = 65535 := by omega
    have hcut : cutText s = s.extract 0 65535 := by rw [cutText, hmin]
    have hsz : (s.extract 0 65535).size = 65535 := by simp; omega
    rw [hcut]
    have HS := Lib.hid hsz
    clear hcut hmin hsz
    go_enter Tryd.func28, Tryd.ntmps28
    go_wp2_with fail
    rw [show ((min 65535 s.size : Nat) : Int) = ((s.extract 0 65535).size : Nat) by rw [HS.out]; omega]
    refine (put_num base v l (s.extract 0 65535).size 2 w (by omega) (by omega) hown hb (by omega)).mono ?_
    rintro e w1 ⟨v1, rfl, ho1, hb1⟩
    have hbs := hb1.size
    go_wp2_with (at_builtin; refine Lib.wpList_append_own_string _ rfl (.tmp 14) (.tmp 15) 32 9 rfl base 5 i0 Tryd.underlying32 Tryd.underlying9 hi0 hz0 hz1 hz2 v1 (l.length + 2) _ rfl ho1 (s.extract 0 65535) rfl ?c1 ?c2 ?c3 ?_)
    case c1 => rw [HS.out]; simp only [maxLen]; omega
    case c2 => rw [HS.out]; omega
    case c3 => omega
    intro v2 w2 ho2 hg2 _
    have hbel : Below base w w2 := hb1.grown hg2 (by omega) (fun k hk => (ho1.lt k hk).1)
    have e1 : Lib.strCells (s.extract 0 65535) = bv (s.extract 0 65535).data.toList := rfl
    rw [e1, ← bv_append] at ho2
    have HO := Lib.hid ho2
    clear ho2 hg2 ho1 e1
    go_wp2
    go_ret
    exact ⟨_, rfl, by simpa using HO.out, hbel⟩

set_option maxHeartbeats 400000 in
theorem ref_text_put (A : Option Addr) (l : List UInt8) (cap : Nat) (s : ByteArray) (w : World) (hb : BytesAt w (.slice A l.length cap) l) (hl : l.length ≤ 3000) (hs : s.size ≤ 70000) :
    Calls Tryd.prog 17 #[.slice A l.length cap, .string s] w fun e w' =>
      ∃ v', e = .returned v' ∧ w'.ownsRow w.heap.size 5 1 v' (l ++ encS (cutText s)).length (bv (l ++ encS (cutText s))) ∧ Below w.heap.size w w' := by
  have HB := Lib.hid hb
  clear hb
  by_cases hlt : s.size ≤ 65535
  · have hcut : cutText s = s := by
      rw [cutText, Nat.min_eq_left hlt]; exact ByteArray.extract_zero_size
    rw [hcut]
    clear hcut
    go_enter Tryd.func17, Tryd.ntmps17
    go_wp2_with fail
    refine (ref_num_put A l cap s.size 2 w HB.out (by omega) (by omega) hl (by omega)).mono ?_
    rintro e w1 ⟨v1, rfl, ho1, hb1⟩
    obtain ⟨vs, w2, hcv, hby, hbw⟩ := conv_str w1 s
    have HBY := Lib.hid hby
    have HO2 := Lib.hid (ho1.kept (row := none) ⟨hbw.os, hbw.tape, hbw.output, hbw.size, fun k hk _ => hbw.block k hk⟩ (by cases v1.ownBlock <;> simp))
    have zz := hb1.size
    have HB2 := Lib.hid (hb1.trans (hbw.mono zz))
    have hsl : (l ++ be 2 s.size).length = l.length + 2 := by simp [be_length]
    have z2 := hbw.size
    have HSL := Lib.hid hsl
    clear ho1 hb1 hby hbw hsl
    go_wp2_with (at_builtin; refine wpList_append_bytes rfl (.tmp 14) (.tmp 16) rfl w.heap.size _ (l ++ be 2 s.size).length _ rfl HO2.out _ s.data.toList rfl HBY.out ?c2 ?c3 ?_)
    case c2 => rw [HSL.out]; simp; omega
    case c3 => omega
    intro v3 w3 ho3 hg3
    have hB3 := HB2.out.grown hg3 (by omega) (fun k hk => (HO2.out.lt k hk).1)
    have HO3 : Hid (w3.ownsRow w.heap.size 5 1 v3 (l ++ encS s).length (bv (l ++ encS s))) := by
      rw [encS, ← List.append_assoc, bv_append, List.length_append]
      refine Lib.hid ?_
      simpa using ho3
    have HB3 := Lib.hid hB3
    clear ho3 hg3 hB3 hcv
    go_wp2
    go_ret
    exact ⟨_, rfl, HO3.out, HB3.out⟩
  · have hmin : min s.size 65535 = 65535 := by omega
    have hcut : cutText s = s.extract 0 65535 := by rw [cutText, hmin]
    have hsz : (s.extract 0 65535).size = 65535 := by simp; omega
    rw [hcut]
    have HS := Lib.hid hsz
    clear hcut hmin hsz
    go_enter Tryd.func17, Tryd.ntmps17
    go_wp2_with fail
    rw [show ((min 65535 s.size : Nat) : Int) = ((s.extract 0 65535).size : Nat) by rw [HS.out]; omega]
    refine (ref_num_put A l cap (s.extract 0 65535).size 2 w HB.out (by omega) (by omega) hl (by rw [HS.out]; omega)).mono ?_
    rintro e w1 ⟨v1, rfl, ho1, hb1⟩
    obtain ⟨vs, w2, hcv, hby, hbw⟩ := conv_str w1 (s.extract 0 65535)
    have HBY := Lib.hid hby
    have HO2 := Lib.hid (ho1.kept (row := none) ⟨hbw.os, hbw.tape, hbw.output, hbw.size, fun k hk _ => hbw.block k hk⟩ (by cases v1.ownBlock <;> simp))
    have zz := hb1.size
    have HB2 := Lib.hid (hb1.trans (hbw.mono zz))
    have hsl : (l ++ be 2 (s.extract 0 65535).size).length = l.length + 2 := by simp [be_length]
    have hsl2 : (s.extract 0 65535).data.toList.length = 65535 := by
      rw [Array.length_toList]
      exact HS.out
    have z2 := hbw.size
    have HSL := Lib.hid hsl
    have HSL2 := Lib.hid hsl2
    clear ho1 hb1 hby hbw hsl hsl2
    go_wp2_with (at_builtin; refine wpList_append_bytes rfl (.tmp 14) (.tmp 16) rfl w.heap.size _ (l ++ be 2 (s.extract 0 65535).size).length _ rfl HO2.out _ (s.extract 0 65535).data.toList rfl HBY.out ?c2 ?c3 ?_)
    case c2 => rw [HSL.out, HSL2.out]; omega
    case c3 => omega
    intro v3 w3 ho3 hg3
    have hB3 := HB2.out.grown hg3 (by omega) (fun k hk => (HO2.out.lt k hk).1)
    have HO3 : Hid (w3.ownsRow w.heap.size 5 1 v3 (l ++ encS (s.extract 0 65535)).length (bv (l ++ encS (s.extract 0 65535)))) := by
      rw [encS, ← List.append_assoc, bv_append, List.length_append]
      refine Lib.hid ?_
      simpa using ho3
    have HB3 := Lib.hid hB3
    clear ho3 hg3 hB3 hcv
    go_wp2
    go_ret
    exact ⟨_, rfl, HO3.out, HB3.out⟩
end Go.Proofs.YtieidemmajdpmaaDoor
