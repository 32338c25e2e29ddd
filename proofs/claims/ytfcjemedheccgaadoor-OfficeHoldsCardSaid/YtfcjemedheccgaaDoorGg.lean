/- What the document's Name of layer 10 answers. The document's Right. Over XGenA's words: plain mathematics of package pack: a number's lowest bytes, the highest first, and the number that bytes are. It speaks of no program. Over XGenA's words: what pack.Num and the document's Num (carcanetref01) put. -/
import Derived.Test.YtfcjemedheccgaaDoorGf
import Derived.Test.YtfcjemedheccgaaDoorGa
import Derived.Laws.BitsAllLaws
import Derived.Test.YtfcjemedheccgaaDoorGb
import Derived.Lib.AppendStr
import Derived.Deep.DeepCutAuto
import Derived.Deep.LoopGhost
import Derived.ChangeAlike
namespace Go.Proofs.YtfcjemedheccgaaDoor
set_option maxRecDepth 100000
open Go.RowKit

theorem refIn_low (c : UInt8) (w : World) :
    Calls Tryd.prog 56 #[.int .u8 (c.toNat : Int), .string ⟨#[97, 98, 99, 100, 101, 102, 103, 104, 105, 106, 107, 108, 109, 110, 111, 112, 113, 114, 115, 116, 117, 118, 119, 120, 121, 122]⟩] w fun e w' => e = .returned (.bool (inB lowL c)) ∧ w = w' :=
  refIn_any c lowL (by decide) w
theorem refIn_name (c : UInt8) (w : World) :
    Calls Tryd.prog 56 #[.int .u8 (c.toNat : Int), .string ⟨#[97, 98, 99, 100, 101, 102, 103, 104, 105, 106, 107, 108, 109, 110, 111, 112, 113, 114, 115, 116, 117, 118, 119, 120, 121, 122, 48, 49, 50, 51, 52, 53, 54, 55, 56, 57, 45]⟩] w fun e w' => e = .returned (.bool (inB nameC c)) ∧ w = w' :=
  refIn_any c nameC (by decide) w

set_option maxHeartbeats 1000000 in
theorem refName_any (l : List UInt8) (w : World) :
    Calls Tryd.prog 41 #[.string ⟨l.toArray⟩] w fun e w' => e = .returned (.bool (nameB l)) ∧ w = w' := by
  by_cases h1 : l.length < 1
  · have HN : Hid (nameB l = false) := Lib.hid (by rw [nameB, decide_eq_false (by omega)]; rfl)
    have y1 : decide ((l.length : Int) < 1) = true := by simp; omega
    go_enter Tryd.func41, Tryd.ntmps41
    go_wp2
    go_ret
    exact ⟨by rw [HN.out]; rfl, rfl⟩
  have y1 : decide ((l.length : Int) < 1) = false := by simp; omega
  by_cases h2 : 16 < l.length
  · have HN : Hid (nameB l = false) := Lib.hid (by rw [nameB, decide_eq_false (show ¬ l.length ≤ 16 by omega)]; simp)
    have y2 : decide (16 < (l.length : Int)) = true := by simp; omega
    have y2n : decide (16 < l.length) = true := by simp; omega
    clear h1
    go_enter Tryd.func41, Tryd.ntmps41
    go_wp2
    go_ret
    exact ⟨by rw [HN.out]; rfl, rfl⟩
  have y2 : decide (16 < (l.length : Int)) = false := by simp; omega
  have y2n : decide (16 < l.length) = false := by simp; omega
  have HB := Lib.hid (show 1 ≤ l.length ∧ l.length ≤ 16 by omega)
  obtain ⟨c0, hc0⟩ : ∃ c, l[0]? = some c := ⟨_, List.getElem?_eq_getElem (by omega)⟩
  have rat := str_at l 0 c0 hc0
  have jk0 : (0 : Int) < (l.length : Int) := by omega
  have jk0n : 0 < l.length := by omega
  have HH := Lib.hid (show l.head?.any (inB lowL) = inB lowL c0 by rw [List.head?_eq_getElem?, hc0]; rfl)
  have C0 := fun w => Lib.hid (refIn_low c0 w)
  clear h1 h2 hc0
  cases hb0 : inB lowL c0 with
  | false =>
    have HN : Hid (nameB l = false) := Lib.hid (by rw [nameB, HH.out, hb0]; simp)
    simp only [hb0] at C0
    go_enter Tryd.func41, Tryd.ntmps41
    go_wp2_with fail
    refine (C0 w).out.mono ?_
    rintro e w1 ⟨rfl, rfl⟩
    go_wp2
    go_ret
    exact ⟨by rw [HN.out]; rfl, rfl⟩
  | true =>
    simp only [hb0] at C0
    have HH2 := Lib.hid (HH.out.trans hb0)
    clear hb0 HH
    go_enter Tryd.func41, Tryd.ntmps41
    go_wp2_with fail
    refine (C0 w).out.mono ?_
    rintro e w1 ⟨rfl, rfl⟩
    clear C0 rat
    go_wp2_with fail
    go_loop [3] (fun i => ∃ k : Nat, k ≤ l.length ∧ i = .int .i64 (k : Int) ∧ (l.take k).all (inB nameC) = true) (fun i => l.length - (intOf i).toNat)
    case atStart => exact ⟨0, Nat.zero_le _, rfl, rfl⟩
    case round =>
      obtain ⟨k, hk, rfl, ha⟩ := hrel
      have HA := Lib.hid ha
      clear ha
      by_cases hlt : k < l.length
      · have dk : decide ((k : Int) < (l.length : Int)) = true := by simp; omega
        have dkn : decide (k < l.length) = true := by simp; omega
        obtain ⟨c, hc⟩ : ∃ c, l[k]? = some c := ⟨_, List.getElem?_eq_getElem hlt⟩
        have jk : (k : Int) < (l.length : Int) := by omega
        have r := str_at l k c hc
        have r4 : IntKind.i64.wrap ((k : Int) + 1) = ((k + 1 : Nat) : Int) := by have := HB.out; rw [IntWalk.i64_in _ (by omega)]; omega
        have HT := Lib.hid (all_take (inB nameC) l k c hc)
        have HF := Lib.hid (all_not (inB nameC) l k c hc)
        have CC := fun w => Lib.hid (refIn_name c w)
        clear hc
        cases hb : inB nameC c with
        | false =>
          have HN : Hid (nameB l = false) := Lib.hid (by rw [nameB, HF.out hb]; simp)
          simp only [hb] at CC
          clear hb HF HT
          go_wp2_with fail
          refine (CC w).out.mono ?_
          rintro e w1 ⟨rfl, rfl⟩
          go_wp2
          go_ret
          exact ⟨by rw [HN.out]; rfl, rfl⟩
        | true =>
          have HK := Lib.hid hb
          simp only [hb] at CC
          clear hb HF
          go_wp2_with fail
          refine (CC w).out.mono ?_
          rintro e w1 ⟨rfl, rfl⟩
          go_wp2
          exact ⟨⟨k + 1, by omega, by go_num, by rw [HT.out, HA.out, HK.out]; rfl⟩, by simp [intOf]; omega⟩
      · obtain rfl : k = l.length := by omega
        have dk : decide ((l.length : Int) < (l.length : Int)) = false := by simp
        have HI : Hid (nameB l = true) := Lib.hid (by
          have e := HA.out
          rw [List.take_length] at e
          rw [nameB, e, HH2.out, decide_eq_true HB.out.1, decide_eq_true HB.out.2]
          rfl)
        go_wp2
        go_ret
        exact ⟨by rw [HI.out]; rfl, rfl⟩
end Go.Proofs.YtfcjemedheccgaaDoor

namespace Go.Proofs.YtfcjemedheccgaaDoor
set_option maxRecDepth 100000
open Go.RowKit

def entR (e : Ent) : Bool := nameB e.name && decide (e.tag.length = 32) && decide (0 ≤ e.since) && decide (e.since ≤ e.till) && decide (e.till ≤ 1073741824) && decide (0 ≤ e.index) && decide (e.index ≤ 64)

end Go.Proofs.YtfcjemedheccgaaDoor

namespace Go.Proofs.YtfcjemedheccgaaDoor
set_option maxRecDepth 100000

/-- The j-th of the lowest size bytes of x, the highest first. -/
def beAt (size x j : Nat) : UInt8 := UInt8.ofNat (x / 2 ^ (8 * (size - 1 - j)) % 256)
/-- The first k of them. -/
def beTo (size x : Nat) : Nat → List UInt8
  | 0 => []
  | k + 1 => beTo size x k ++ [beAt size x k]
def be (size x : Nat) : List UInt8 := beTo size x size

theorem beTo_length (size x k : Nat) : (beTo size x k).length = k := by
  induction k with
  | zero => rfl
  | succ k ih => simp [beTo, ih]
theorem be_length (size x : Nat) : (be size x).length = size := beTo_length size x size

theorem beAt_cell (size x k : Nat) : bv [beAt size x k] = [Value.int .u8 ((x : Int) / 2 ^ (8 * (size - 1 - k)) % 256)] := by
  have h : ((beAt size x k).toNat : Int) = (x : Int) / 2 ^ (8 * (size - 1 - k)) % 256 := by
    simp [beAt]
  simp [bv, h]
/-- The number that bytes are, the highest first. -/
def ofBe (l : List UInt8) : Nat := l.foldl (fun n c => n * 256 + c.toNat) 0
theorem ofBe_snoc (l : List UInt8) (c : UInt8) : ofBe (l ++ [c]) = ofBe l * 256 + c.toNat := by simp [ofBe]
theorem foldBe_lt (l : List UInt8) : ∀ n : Nat, l.foldl (fun n c => n * 256 + c.toNat) n < (n + 1) * 256 ^ l.length := by
  induction l with
  | nil => intro n; simp
  | cons c l ih =>
    intro n
    have h := ih (n * 256 + c.toNat)
    have hc := c.toNat_lt
    simp only [List.foldl_cons, List.length_cons, Nat.pow_succ]
    have h2 : (n * 256 + c.toNat + 1) * 256 ^ l.length ≤ ((n + 1) * 256) * 256 ^ l.length := Nat.mul_le_mul_right _ (by omega)
    have h3 : ((n + 1) * 256) * 256 ^ l.length = (n + 1) * (256 ^ l.length * 256) := by rw [Nat.mul_assoc, Nat.mul_comm 256]
    omega
theorem ofBe_lt (l : List UInt8) : ofBe l < 256 ^ l.length := by
  have := foldBe_lt l 0
  simpa [ofBe] using this
theorem or_byte (a c : Nat) (hc : c < 256) (h : a * 256 + c < 18446744073709551616) :
    bits .or .u64 (IntKind.u64.wrap ((a : Int) * 256)) (IntKind.u64.wrap (c : Int)) = ((a * 256 + c : Nat) : Int) := by
  have k1 : a * 256 < 18446744073709551616 := Nat.lt_of_le_of_lt (Nat.le_add_right _ c) h
  have k2 : c < 18446744073709551616 := Nat.lt_of_le_of_lt (Nat.le_add_left c (a * 256)) h
  have e1 : IntKind.u64.wrap ((a : Int) * 256) = ((a * 256 : Nat) : Int) := by rw [IntKind.wrap_u64]; clear h; omega
  have e2 : IntKind.u64.wrap (c : Int) = (c : Int) := by rw [IntKind.wrap_u64]; clear h; omega
  rw [e1, e2, u64_or_nat (a * 256) c k1 k2]
  clear e1 e2
  have h2 : 2 ^ 8 * a + c = 2 ^ 8 * a ||| c := Nat.two_pow_add_eq_or_of_lt (i := 8) (by omega) a
  have e3 : 2 ^ 8 * a = a * 256 := by omega
  rw [e3] at h2
  rw [h2]
theorem take_one_more (s : ByteArray) (k : Nat) (h : k < s.size) : s.data.toList.take (k + 1) = s.data.toList.take k ++ [s[k]] := by
  rw [List.take_succ_eq_append_getElem (by simpa using h)]; rfl
theorem ofBe_take (s : ByteArray) (k : Nat) (h : k < s.size) (h8 : s.size ≤ 8) :
    bits .or .u64 (IntKind.u64.wrap ((ofBe (s.data.toList.take k) : Int) * 256)) (IntKind.u64.wrap (s[k].toNat : Int)) = (ofBe (s.data.toList.take (k + 1)) : Int) := by
  have hb := ofBe_lt (s.data.toList.take (k + 1))
  have hp : 256 ^ (s.data.toList.take (k + 1)).length ≤ 256 ^ 8 := Nat.pow_le_pow_right (by omega) (by simp; omega)
  rw [take_one_more s k h, ofBe_snoc] at *
  exact or_byte _ _ s[k].toNat_lt (Nat.lt_of_lt_of_le hb (Nat.le_trans hp (by decide)))
theorem add_take (s : ByteArray) (k : Nat) (h : k < s.size) (h8 : s.size ≤ 8) :
    IntKind.u64.wrap (IntKind.u64.wrap ((ofBe (s.data.toList.take k) : Int) * 256) + IntKind.u64.wrap (s[k].toNat : Int)) = (ofBe (s.data.toList.take (k + 1)) : Int) := by
  have hb := ofBe_lt (s.data.toList.take (k + 1))
  have hp : 256 ^ (s.data.toList.take (k + 1)).length ≤ 256 ^ 8 := Nat.pow_le_pow_right (by omega) (by simp; omega)
  have hlt : ofBe (s.data.toList.take (k + 1)) < 18446744073709551616 := Nat.lt_of_lt_of_le hb (Nat.le_trans hp (by decide))
  clear hb hp
  rw [take_one_more s k h, ofBe_snoc] at *
  generalize ofBe (s.data.toList.take k) = a at *
  generalize s[k].toNat = c at *
  simp only [IntKind.wrap_u64]
  have e : (((a : Int) * 256) % 18446744073709551616 + (c : Int) % 18446744073709551616) % 18446744073709551616 = ((a : Int) * 256 + c) % 18446744073709551616 := by rw [← Int.add_emod]
  rw [e]
  have e2 : ((a : Int) * 256 + c) = ((a * 256 + c : Nat) : Int) := by simp
  rw [e2]
  generalize a * 256 + c = m at *
  omega
/-- What a text is cut to. -/
def cutText (s : ByteArray) : ByteArray := s.extract 0 (min s.size 65535)
end Go.Proofs.YtfcjemedheccgaaDoor

namespace Go.Proofs.YtfcjemedheccgaaDoor
set_option maxRecDepth 100000
open Go.RowKit

set_option maxHeartbeats 400000 in
theorem fits_yes (n : Int) (w : World) (h1 : 1 ≤ n) (h2 : n ≤ 8) :
    Calls Tryd.prog 75 #[.int .i64 n] w fun e w' => e = .returned (.bool true) ∧ w = w' := by
  go_enter Tryd.func75, Tryd.ntmps75
  go_wp2
  go_ret
  exact ⟨rfl, rfl⟩

set_option maxHeartbeats 400000 in
theorem put_num (base : Nat) (v : Value) (l : List UInt8) (x size : Nat) (w : World) (h1 : 1 ≤ size) (h8 : size ≤ 8)
    (hown : w.ownsRow base 5 1 v l.length (bv l)) (hb : base ≤ w.heap.size) (hl : l.length ≤ 1000000) :
    Calls Tryd.prog 63 #[v, .int .u64 x, .int .i64 size] w fun e w' =>
      ∃ v', e = .returned v' ∧ w'.ownsRow base 5 1 v' (l.length + size) (bv (l ++ be size x)) ∧ Below base w w' := by
  obtain ⟨i0, hi0, hz0, hz1, hz2⟩ := info_parts byte_info
  go_enter Tryd.func63, Tryd.ntmps63
  go_wp2_with fail
  refine (fits_yes _ _ (by omega) (by omega)).mono ?_
  rintro e w1 ⟨rfl, rfl⟩
  go_wp2_with fail
  have Hown := Lib.hid hown
  clear hown
  go_loopw [0, 13] (fun u i wr => ∃ k : Nat, k ≤ size ∧ i = .int .i64 k ∧ wr.ownsRow base 5 1 u (l.length + k) (bv (l ++ beTo size x k)) ∧ Below base w wr) (fun _ i _ => size - (intOf i).toNat)
  case atStart => exact ⟨0, Nat.zero_le _, rfl, by simpa [beTo] using Hown.out, Below.refl _ _⟩
  case round =>
    obtain ⟨k, hk, rfl, ho, hbel⟩ := hrel
    have hbs := hbel.size
    by_cases hlt : k < size
    · go_wp2_with (at_builtin; refine wpList_append_own _ rfl (.tmp 16) (.tmp 25) 78 rfl base 5 i0 (.int .u8 0) 1 1 Tryd.underlying78 hi0 hz0 hz1 hz2 rfl (by decide) _ (l.length + k) _ rfl (ho.alloc _) ⟨wr.heap.size, 0, none⟩ 1 1 [.int .u8 ((x : Int) / 2 ^ (8 * (size - 1 - k)) % 256)] rfl rfl ?c1 ?c2 ?c3 ?c4 ?c5 ?_)
      case c1 => exact cell_one_new _ _ _
      case c2 => intro u hu; simp at hu; subst hu; rfl
      case c3 => simp only [maxLen]; omega
      case c4 => omega
      case c5 => simp; omega
      intro v' w1 ho' hg _
      have hr := (ho.alloc (.cells #[.int .u8 ((x : Int) / 2 ^ (8 * (size - 1 - k)) % 256)] 5)).lt
      have hbel' : Below base w w1 := (hbel.alloc (by omega) _).grown hg (by simp; omega) (fun g hg => (hr g hg).1)
      have ho2 : w1.ownsRow base 5 1 v' (l.length + (k + 1)) (bv (l ++ beTo size x (k + 1))) := by
        rw [beTo, ← List.append_assoc, bv_append, beAt_cell]
        exact ho'
      have HO := Lib.hid ho2
      clear ho2 ho' hg ho hr
      go_wp2
      go_roundw
      case rel => exact ⟨k + 1, by omega, by go_num, HO.out, hbel'⟩
      case measure => simp [intOf]; omega
    · obtain rfl : k = size := by omega
      have HO := Lib.hid ho
      clear ho
      go_wp2
      go_ret
      exact ⟨_, rfl, HO.out, hbel⟩

theorem be_eq (size x : Nat) : be size x = (List.range size).map (beAt size x) := by
  have h : ∀ k, beTo size x k = (List.range k).map (beAt size x) := by
    intro k
    induction k with
    | zero => rfl
    | succ k ih => rw [beTo, ih, List.range_succ, List.map_append]; rfl
  exact h size
theorem be_succ (j x : Nat) : be (j + 1) x = UInt8.ofNat (x / 256 ^ j % 256) :: be j x := by
  rw [be_eq, be_eq, List.range_succ_eq_map, List.map_cons, List.map_map]
  congr 1
  · simp only [beAt]
    rw [show (256 : Nat) = 2 ^ 8 from rfl, ← Nat.pow_mul]
    simp
  · apply List.map_congr_left
    intro i _
    simp only [Function.comp, beAt]
    have : j + 1 - 1 - i.succ = j - 1 - i := by omega
    rw [this]

/-- The bytes while the number is written from its end. -/
def midN (l : List UInt8) (size x j : Nat) : List UInt8 := l ++ (List.replicate (size - j) 0 ++ be j x)
theorem midN_length (l : List UInt8) (size x j : Nat) (h : j ≤ size) : (midN l size x j).length = l.length + size := by
  simp [midN, be_length]; omega
theorem midN_zero (l : List UInt8) (size x : Nat) : midN l size x 0 = l ++ List.replicate size 0 := by simp [midN, be, beTo]
theorem midN_all (l : List UInt8) (size x : Nat) : midN l size x size = l ++ be size x := by simp [midN]
theorem midN_set (l : List UInt8) (size x j : Nat) (h : j < size) :
    (bv (midN l size x j)).set (l.length + size - 1 - j) (.int .u8 (((x / 256 ^ j % 256 : Nat)) : Int)) = bv (midN l size x (j + 1)) := by
  have e1 : size - j = (size - (j + 1)) + 1 := by omega
  rw [midN, midN, be_succ, e1, List.replicate_succ']
  simp only [bv, List.map_append, List.map_cons, List.map_nil, List.append_assoc]
  have e2 : l.length + size - 1 - j = (l.map fun c => Value.int .u8 (c.toNat : Int)).length + (size - (j + 1)) := by simp; omega
  rw [e2, List.set_append_right _ _ (by omega), Nat.add_sub_cancel_left]
  congr 1
  rw [List.set_append_right _ _ (by simp)]
  simp

set_option maxHeartbeats 1000000 in
theorem ref_num_put (A : Option Addr) (l : List UInt8) (cap x size : Nat) (w : World) (hb : BytesAt w (.slice A l.length cap) l) (h1 : 1 ≤ size) (h8 : size ≤ 8) (hl : l.length ≤ 3000) (hx : x < 18446744073709551616) :
    Calls Tryd.prog 83 #[.slice A l.length cap, .int .u64 x, .int .i64 size] w fun e w' =>
      ∃ v', e = .returned v' ∧ w'.ownsRow w.heap.size 5 1 v' (l ++ be size x).length (bv (l ++ be size x)) ∧ Below w.heap.size w w' := by
  have HB := Lib.hid hb
  have HX := Lib.hid hx
  clear hb hx
  obtain ⟨i0, hi0, hz0, hz1, hz2⟩ := info_parts byte_info
  have d1 : decide ((size : Int) < 1) = false := by simp; omega
  have d8 : decide ((8 : Int) < (size : Int)) = false := by simp; omega
  go_enter Tryd.func83, Tryd.ntmps83
  go_wp2_with (at_builtin; refine wpList_append_bytes rfl (.tmp 17) (.tmp 18) rfl w.heap.size _ 0 [] rfl (own_empty w) _ l rfl ?c1 ?c2 ?c3 ?_)
  case c1 => exact HB.out.below ((Below.refl _ _).alloc (Nat.le_refl _) _)
  case c2 => omega
  case c3 => simp
  intro v1 w1 ho1 hg1
  have hb1 : Below w.heap.size w w1 := ((Below.refl _ _).alloc (Nat.le_refl _) _).grown hg1 (by simp) (fun k hk => by simp [Value.ownBlock] at hk; omega)
  have HO1 := Lib.hid ho1
  have HB1 := Lib.hid hb1
  clear ho1 hg1 hb1
  go_wp2_with fail
  go_loopw [7, 8] (fun u i wr => ∃ k : Nat, k ≤ size ∧ i = .int .i64 k ∧ wr.ownsRow w.heap.size 5 1 u (l.length + k) (bv (l ++ List.replicate k 0)) ∧ Below w.heap.size w wr) (fun _ i _ => size - (intOf i).toNat)
  case atStart => exact ⟨0, Nat.zero_le _, rfl, by simpa using HO1.out, HB1.out⟩
  case round =>
    obtain ⟨k, hk, rfl, ho, hbel⟩ := hrel
    have HO := Lib.hid ho
    have HBe := Lib.hid hbel
    have zr := hbel.size
    clear ho hbel
    by_cases hlt : k < size
    · go_wp2_with (at_builtin; refine wpList_append_own _ rfl (.tmp 25) (.tmp 26) 78 rfl w.heap.size 5 i0 (.int .u8 0) 1 1 Tryd.underlying78 hi0 hz0 hz1 hz2 rfl (by decide) _ (l.length + k) _ rfl (HO.out.alloc _) ⟨wr.heap.size, 0, none⟩ 1 1 [.int .u8 0] rfl rfl ?c1 ?c2 ?c3 ?c4 ?c5 ?_)
      case c1 => exact cell_one_new _ _ _
      case c2 => intro u hu; simp at hu; subst hu; rfl
      case c3 => simp only [maxLen]; omega
      case c4 => omega
      case c5 => simp; omega
      intro v' w2 ho' hg _
      have hr := (HO.out.alloc (.cells #[.int .u8 0] 5)).lt
      have hbel' : Below w.heap.size w w2 := (HBe.out.alloc (by omega) _).grown hg (by simp; omega) (fun g hg => (hr g hg).1)
      have ho2 : w2.ownsRow w.heap.size 5 1 v' (l.length + (k + 1)) (bv (l ++ List.replicate (k + 1) 0)) := by
        rw [List.replicate_succ', ← List.append_assoc, bv_append]
        exact ho'
      have HO2 := Lib.hid ho2
      have HB2 := Lib.hid hbel'
      clear ho2 ho' hg hr hbel'
      go_wp2
      go_roundw
      case rel => exact ⟨k + 1, by omega, by go_num, HO2.out, HB2.out⟩
      case measure => simp [intOf]; omega
    · obtain rfl : k = size := by omega
      obtain ⟨g, capg, hv, hgb, hgl⟩ := HO.out.form (by omega)
      obtain rfl := hv
      have HOa := Lib.hid (by have q := HO.out; rw [← midN_zero l k x] at q; exact q)
      have HBa := HBe
      obtain ⟨wa, rfl⟩ : ∃ wa : World, wa = wr := ⟨_, rfl⟩
      clear HO HBe hlt hk HO1 HB1
      go_wp2_with fail
      go_loopw [9, 1] (fun i y wr => ∃ j : Nat, j ≤ k ∧ i = .int .i64 ((l.length : Int) + k - 1 - j) ∧ y = .int .u64 ((x / 256 ^ j : Nat) : Int) ∧ wr.ownsRow w.heap.size 5 1 (.slice (some ⟨g, 0, none⟩) (l.length + k) capg) (l.length + k) (bv (midN l k x j)) ∧ Below w.heap.size w wr) (fun i _ _ => (intOf i + 1 - l.length).toNat)
      case atStart => exact ⟨0, Nat.zero_le _, by go_num, by simp, HOa.out, HBa.out⟩
      case round =>
        obtain ⟨j, hj, rfl, rfl, ho, hbel⟩ := hrel
        have HO := Lib.hid ho
        have HBe := Lib.hid hbel
        have zr := hbel.size
        clear ho hbel
        by_cases hlt : j < k
        · have c0 := HO.out.cellAt (l.length + k - 1 - j) (by omega)
          have f0 := HO.out.frozenAt (l.length + k - 1 - j)
          have hlen : l.length + k - 1 - j < (bv (midN l k x j)).length := by rw [bv_length, midN_length _ _ _ _ hj]; omega
          rw [List.getElem?_eq_getElem hlen] at c0
          generalize (bv (midN l k x j))[l.length + k - 1 - j] = old at c0
          have HS := Lib.hid (midN_set l k x j hlt)
          have HW : Hid (IntKind.u64.wrap (((x / 256 ^ j : Nat) : Int) / 256) = ((x / 256 ^ (j + 1) : Nat) : Int)) := by
            have e1 : x / 256 ^ (j + 1) = x / 256 ^ j / 256 := by rw [Nat.div_div_eq_div_mul, Nat.pow_succ]
            have e2 : x / 256 ^ j < 18446744073709551616 := Nat.lt_of_le_of_lt (Nat.div_le_self _ _) HX.out
            show IntKind.u64.wrap (((x / 256 ^ j : Nat) : Int) / 256) = ((x / 256 ^ (j + 1) : Nat) : Int)
            rw [e1, IntKind.wrap_u64]
            generalize x / 256 ^ j = y at *
            omega
          have HE : Hid (((x / 256 ^ j % 256 : Nat) : Int) = ((x / 256 ^ j : Nat) : Int) % 256) := Int.natCast_emod _ _
          clear hlen
          generalize x / 256 ^ j = y at *
          go_wp2_with fail
          refine ⟨⟨j + 1, by omega, by congr 1; omega, by rw [HW.out], ?_, HBe.out.setCell (by exact hgb) _⟩, by simp [intOf]; omega⟩
          have q := HO.out.stored (l.length + k - 1 - j) (.int .u8 ((y : Int) % 256))
          rw [← HE.out, HS.out] at q
          rw [← HE.out]
          exact q.1
        · obtain rfl : j = k := by omega
          have ho := HO.out
          rw [midN_all] at ho
          have HO2 : Hid (wr.ownsRow w.heap.size 5 1 (.slice (some ⟨g, 0, none⟩) (l.length + j) capg) (l ++ be j x).length (bv (l ++ be j x))) := by
            rw [List.length_append, be_length]; exact ho
          clear ho HO
          go_wp2
          go_ret
          exact ⟨_, rfl, HO2.out, HBe.out⟩

set_option maxHeartbeats 400000 in
theorem ref_num_put_not (v : Value) (x n : Int) (w : World) (h : n < 1 ∨ 8 < n) :
    Calls Tryd.prog 83 #[v, .int .u64 x, .int .i64 n] w fun e w' => e = .returned v ∧ w = w' := by
  by_cases h1 : n < 1
  · have d1 : decide (n < 1) = true := by simpa using h1
    go_enter Tryd.func83, Tryd.ntmps83
    go_wp2
    go_ret
    exact ⟨rfl, rfl⟩
  · have d1 : decide (n < 1) = false := by simpa using h1
    have d8 : decide (8 < n) = true := by simp; omega
    go_enter Tryd.func83, Tryd.ntmps83
    go_wp2
    go_ret
    exact ⟨rfl, rfl⟩
end Go.Proofs.YtfcjemedheccgaaDoor
