/- Entries as values. What the document's in of layer 10 answers. What the document's Name of layer 10 answers. The document's Right. Over XGenA's words: plain mathematics of package pack: a number's lowest bytes, the highest first, and the number that bytes are. It speaks of no program. -/
import Derived.Test.YtehalcopkjfdkaaDoorGe
import Derived.Test.YtehalcopkjfdkaaDoorGb
import Derived.Test.YtehalcopkjfdkaaDoorGd
import Derived.Test.YtehalcopkjfdkaaDoorGa
import Derived.Laws.BitsAllLaws
namespace Go.Proofs.YtehalcopkjfdkaaDoor
set_option maxRecDepth 100000
open Go.RowKit

def entW (a b : Ent) : Bool := decide (a.name = b.name) && decide (a.id = b.id)

end Go.Proofs.YtehalcopkjfdkaaDoor

namespace Go.Proofs.YtehalcopkjfdkaaDoor
set_option maxRecDepth 100000
open Go.RowKit

set_option maxHeartbeats 1000000 in
theorem refIn_any (c : UInt8) (l : List UInt8) (hl : l.length ≤ 100000) (w : World) :
    Calls Tryd.prog 50 #[.int .u8 (c.toNat : Int), .string ⟨l.toArray⟩] w fun e w' => e = .returned (.bool (inB l c)) ∧ w = w' := by
  have HL := Lib.hid hl
  go_enter Tryd.func50, Tryd.ntmps50
  go_wp2_with fail
  go_loop [5] (fun i => ∃ k : Nat, k ≤ l.length ∧ i = .int .i64 (k : Int) ∧ ∀ i, i < k → l[i]? ≠ some c) (fun i => l.length - (intOf i).toNat)
  case atStart => exact ⟨0, Nat.zero_le _, rfl, fun i hi => by omega⟩
  case round =>
    obtain ⟨k, hk, rfl, hb⟩ := hrel
    have HB := Lib.hid hb
    clear hb
    by_cases hlt : k < l.length
    · have dk : decide ((k : Int) < (l.length : Int)) = true := by simp; omega
      have dkn : decide (k < l.length) = true := by simp; omega
      obtain ⟨d, hd⟩ : ∃ d, l[k]? = some d := ⟨_, List.getElem?_eq_getElem hlt⟩
      have HD := Lib.hid hd
      have jk : (k : Int) < (l.length : Int) := by omega
      have r := str_at l k d hd
      have r4 : IntKind.i64.wrap ((k : Int) + 1) = ((k + 1 : Nat) : Int) := by rw [IntWalk.i64_in _ (by omega)]; omega
      clear hd
      by_cases hc : d = c
      · have e : ((d.toNat : Int) == (c.toNat : Int)) = true := by rw [hc]; simp
        have E : Hid (inB l c = true) := Lib.hid (inB_true l c (List.mem_of_getElem? (by rw [HD.out, hc])))
        clear hc
        go_wp2
        go_ret
        exact ⟨by rw [E.out]; rfl, rfl⟩
      · have e : ((d.toNat : Int) == (c.toNat : Int)) = false := by
          rw [beq_eq_false_iff_ne]
          exact fun e => hc (UInt8.toNat_inj.1 (by omega))
        have HC := Lib.hid hc
        clear hc
        go_wp2
        refine ⟨⟨k + 1, by omega, by go_num, fun i hi => ?_⟩, by simp [intOf]; omega⟩
        rcases Nat.lt_or_ge i k with h | h
        · exact HB.out i h
        · obtain rfl : i = k := by omega
          rw [HD.out]
          intro e
          injection e with e
          exact HC.out e
    · obtain rfl : k = l.length := by omega
      have dk : decide ((l.length : Int) < (l.length : Int)) = false := by simp
      have E : Hid (inB l c = false) := Lib.hid (by
        cases h : inB l c with
        | false => rfl
        | true =>
          obtain ⟨i, hi⟩ := List.getElem?_of_mem (inB_mem l c h)
          have hil := (List.getElem?_eq_some_iff.1 hi).1
          exact absurd hi (HB.out i hil))
      go_wp2
      go_ret
      exact ⟨by rw [E.out]; rfl, rfl⟩
end Go.Proofs.YtehalcopkjfdkaaDoor

namespace Go.Proofs.YtehalcopkjfdkaaDoor
set_option maxRecDepth 100000
open Go.RowKit

theorem refIn_low (c : UInt8) (w : World) :
    Calls Tryd.prog 50 #[.int .u8 (c.toNat : Int), .string ⟨#[97, 98, 99, 100, 101, 102, 103, 104, 105, 106, 107, 108, 109, 110, 111, 112, 113, 114, 115, 116, 117, 118, 119, 120, 121, 122]⟩] w fun e w' => e = .returned (.bool (inB lowL c)) ∧ w = w' :=
  refIn_any c lowL (by decide) w
theorem refIn_name (c : UInt8) (w : World) :
    Calls Tryd.prog 50 #[.int .u8 (c.toNat : Int), .string ⟨#[97, 98, 99, 100, 101, 102, 103, 104, 105, 106, 107, 108, 109, 110, 111, 112, 113, 114, 115, 116, 117, 118, 119, 120, 121, 122, 48, 49, 50, 51, 52, 53, 54, 55, 56, 57, 45]⟩] w fun e w' => e = .returned (.bool (inB nameC c)) ∧ w = w' :=
  refIn_any c nameC (by decide) w

set_option maxHeartbeats 1000000 in
theorem refName_any (l : List UInt8) (w : World) :
    Calls Tryd.prog 38 #[.string ⟨l.toArray⟩] w fun e w' => e = .returned (.bool (nameB l)) ∧ w = w' := by
  by_cases h1 : l.length < 1
  · have HN : Hid (nameB l = false) := Lib.hid (by rw [nameB, decide_eq_false (by omega)]; rfl)
    have y1 : decide ((l.length : Int) < 1) = true := by simp; omega
    go_enter Tryd.func38, Tryd.ntmps38
    go_wp2
    go_ret
    exact ⟨by rw [HN.out]; rfl, rfl⟩
  have y1 : decide ((l.length : Int) < 1) = false := by simp; omega
  by_cases h2 : 16 < l.length
  · have HN : Hid (nameB l = false) := Lib.hid (by rw [nameB, decide_eq_false (show ¬ l.length ≤ 16 by omega)]; simp)
    have y2 : decide (16 < (l.length : Int)) = true := by simp; omega
    have y2n : decide (16 < l.length) = true := by simp; omega
    clear h1
    go_enter Tryd.func38, Tryd.ntmps38
    go_wp2
    go_ret
    exact ⟨by rw [HN.out]; rfl, rfl⟩
  have y2 : decide (16 < (l.length : Int)) = false := by simp; omega
  have y2n : decide (16 < l.length) = false := by simp; omega
  have HB := Lib.hid (show 1 ≤ l.length ∧ l.length ≤ 16 by omega)
  obtain ⟨c0, hc0⟩ : ∃ c, l[0]? = some c := ⟨_, List.getElem?_eq_getElem (by omega)⟩
  have rat := str_at l 0 c0 hc0
  have jk0 : (0 : Int) < (l.length : Int) := by omega
  have jk0n : 0 < l.length := by omega
  have HH := Lib.hid (show l.head?.any (inB lowL) = inB lowL c0 by rw [List.head?_eq_getElem?, hc0]; rfl)
  have C0 := fun w => Lib.hid (refIn_low c0 w)
  clear h1 h2 hc0
  cases hb0 : inB lowL c0 with
  | false =>
    have HN : Hid (nameB l = false) := Lib.hid (by rw [nameB, HH.out, hb0]; simp)
    simp only [hb0] at C0
    go_enter Tryd.func38, Tryd.ntmps38
    go_wp2_with fail
    refine (C0 w).out.mono ?_
    rintro e w1 ⟨rfl, rfl⟩
    go_wp2
    go_ret
    exact ⟨by rw [HN.out]; rfl, rfl⟩
  | true =>
    simp only [hb0] at C0
    have HH2 := Lib.hid (HH.out.trans hb0)
    clear hb0 HH
    go_enter Tryd.func38, Tryd.ntmps38
    go_wp2_with fail
    refine (C0 w).out.mono ?_
    rintro e w1 ⟨rfl, rfl⟩
    clear C0 rat
    go_wp2_with fail
    go_loop [3] (fun i => ∃ k : Nat, k ≤ l.length ∧ i = .int .i64 (k : Int) ∧ (l.take k).all (inB nameC) = true) (fun i => l.length - (intOf i).toNat)
    case atStart => exact ⟨0, Nat.zero_le _, rfl, rfl⟩
    case round =>
      obtain ⟨k, hk, rfl, ha⟩ := hrel
      have HA := Lib.hid ha
      clear ha
      by_cases hlt : k < l.length
      · have dk : decide ((k : Int) < (l.length : Int)) = true := by simp; omega
        have dkn : decide (k < l.length) = true := by simp; omega
        obtain ⟨c, hc⟩ : ∃ c, l[k]? = some c := ⟨_, List.getElem?_eq_getElem hlt⟩
        have jk : (k : Int) < (l.length : Int) := by omega
        have r := str_at l k c hc
        have r4 : IntKind.i64.wrap ((k : Int) + 1) = ((k + 1 : Nat) : Int) := by have := HB.out; rw [IntWalk.i64_in _ (by omega)]; omega
        have HT := Lib.hid (all_take (inB nameC) l k c hc)
        have HF := Lib.hid (all_not (inB nameC) l k c hc)
        have CC := fun w => Lib.hid (refIn_name c w)
        clear hc
        cases hb : inB nameC c with
        | false =>
          have HN : Hid (nameB l = false) := Lib.hid (by rw [nameB, HF.out hb]; simp)
          simp only [hb] at CC
          clear hb HF HT
          go_wp2_with fail
          refine (CC w).out.mono ?_
          rintro e w1 ⟨rfl, rfl⟩
          go_wp2
          go_ret
          exact ⟨by rw [HN.out]; rfl, rfl⟩
        | true =>
          have HK := Lib.hid hb
          simp only [hb] at CC
          clear hb HF
          go_wp2_with fail
          refine (CC w).out.mono ?_
          rintro e w1 ⟨rfl, rfl⟩
          go_wp2
          exact ⟨⟨k + 1, by omega, by go_num, by rw [HT.out, HA.out, HK.out]; rfl⟩, by simp [intOf]; omega⟩
      · obtain rfl : k = l.length := by omega
        have dk : decide ((l.length : Int) < (l.length : Int)) = false := by simp
        have HI : Hid (nameB l = true) := Lib.hid (by
          have e := HA.out
          rw [List.take_length] at e
          rw [nameB, e, HH2.out, decide_eq_true HB.out.1, decide_eq_true HB.out.2]
          rfl)
        go_wp2
        go_ret
        exact ⟨by rw [HI.out]; rfl, rfl⟩
end Go.Proofs.YtehalcopkjfdkaaDoor

namespace Go.Proofs.YtehalcopkjfdkaaDoor
set_option maxRecDepth 100000
open Go.RowKit

def entR (e : Ent) : Bool := nameB e.name && decide (e.tag.length = 32) && decide (0 ≤ e.since) && decide (e.since ≤ e.till) && decide (e.till ≤ 1073741824) && decide (0 ≤ e.index) && decide (e.index ≤ 64)

set_option maxHeartbeats 1000000 in
theorem refRight_any (a : Ent) (w : World) :
    Calls Tryd.prog 28 #[a.val] w fun e w' => e = .returned (.bool (entR a)) ∧ Below w.heap.size w w' := by
  obtain ⟨n, i, f, u, x, t⟩ := a
  simp only [Ent.val, Ent.enc]
  obtain ⟨b0, h0⟩ : ∃ b, b = nameB n := ⟨_, rfl⟩
  obtain ⟨b2, h2⟩ : ∃ b, b = decide (0 ≤ f) := ⟨_, rfl⟩
  obtain ⟨b3, h3⟩ : ∃ b, b = decide (f ≤ u) := ⟨_, rfl⟩
  obtain ⟨b4, h4⟩ : ∃ b, b = decide (u ≤ 1073741824) := ⟨_, rfl⟩
  obtain ⟨b5, h5⟩ : ∃ b, b = decide (0 ≤ x) := ⟨_, rfl⟩
  obtain ⟨b6, h6⟩ : ∃ b, b = decide (x ≤ 64) := ⟨_, rfl⟩
  have CN := fun w => Lib.hid (refName_any n w)
  rw [← h0] at CN
  have r2 := h2.symm
  have r3 := h3.symm
  have r4 := h4.symm
  have r5 := h5.symm
  have r6 := h6.symm
  by_cases ht : t.length = 32
  · have HB : Hid (entR ⟨n, i, f, u, x, t⟩ = (b0 && b2 && b3 && b4 && b5 && b6)) := Lib.hid (by
      rw [entR, ← h0, ← h2, ← h3, ← h4, ← h5, ← h6, decide_eq_true ht, Bool.and_true])
    have q1 : ((t.length : Int) != 32) = false := by rw [ht]; rfl
    have q2 : (t.length != 32) = false := by rw [ht]; rfl
    clear h0 h2 h3 h4 h5 h6 ht
    cases b0 <;> cases b2 <;> cases b3 <;> cases b4 <;> cases b5 <;> cases b6
    all_goals
      go_enter Tryd.func28, Tryd.ntmps28
      go_wp2_with fail
      refine (CN _).out.mono ?_
      rintro e w1 ⟨rfl, rfl⟩
      go_wp2
      go_ret
      exact ⟨by rw [HB.out]; rfl, (Below.refl _ _).alloc (Nat.le_refl _) _⟩
  · have HB : Hid (entR ⟨n, i, f, u, x, t⟩ = false) := Lib.hid (by
      rw [entR, decide_eq_false ht]
      simp)
    have q1 : ((t.length : Int) != 32) = true := by simp; omega
    have q2 : (t.length != 32) = true := by simp; omega
    clear h0 h2 h3 h4 h5 h6 ht
    cases b0
    all_goals
      go_enter Tryd.func28, Tryd.ntmps28
      go_wp2_with fail
      refine (CN _).out.mono ?_
      rintro e w1 ⟨rfl, rfl⟩
      go_wp2
      go_ret
      exact ⟨by rw [HB.out]; rfl, (Below.refl _ _).alloc (Nat.le_refl _) _⟩
end Go.Proofs.YtehalcopkjfdkaaDoor

namespace Go.Proofs.YtehalcopkjfdkaaDoor
set_option maxRecDepth 100000

/-- The j-th of the lowest size bytes of x, the highest first. -/
def beAt (size x j : Nat) : UInt8 := UInt8.ofNat (x / 2 ^ (8 * (size - 1 - j)) % 256)
/-- The first k of them. -/
def beTo (size x : Nat) : Nat → List UInt8
  | 0 => []
  | k + 1 => beTo size x k ++ [beAt size x k]
def be (size x : Nat) : List UInt8 := beTo size x size

theorem beTo_length (size x k : Nat) : (beTo size x k).length = k := by
  induction k with
  | zero => rfl
  | succ k ih => simp [beTo, ih]
theorem be_length (size x : Nat) : (be size x).length = size := beTo_length size x size

theorem beAt_cell (size x k : Nat) : bv [beAt size x k] = [Value.int .u8 ((x : Int) / 2 ^ (8 * (size - 1 - k)) % 256)] := by
  have h : ((beAt size x k).toNat : Int) = (x : Int) / 2 ^ (8 * (size - 1 - k)) % 256 := by
    simp [beAt]
  simp [bv, h]
/-- The number that bytes are, the highest first. -/
def ofBe (l : List UInt8) : Nat := l.foldl (fun n c => n * 256 + c.toNat) 0
theorem ofBe_snoc (l : List UInt8) (c : UInt8) : ofBe (l ++ [c]) = ofBe l * 256 + c.toNat := by simp [ofBe]
theorem foldBe_lt (l : List UInt8) : ∀ n : Nat, l.foldl (fun n c => n * 256 + c.toNat) n < (n + 1) * 256 ^ l.length := by
  induction l with
  | nil => intro n; simp
  | cons c l ih =>
    intro n
    have h := ih (n * 256 + c.toNat)
    have hc := c.toNat_lt
    simp only [List.foldl_cons, List.length_cons, Nat.pow_succ]
    have h2 : (n * 256 + c.toNat + 1) * 256 ^ l.length ≤ ((n + 1) * 256) * 256 ^ l.length := Nat.mul_le_mul_right _ (by omega)
    have h3 : ((n + 1) * 256) * 256 ^ l.length = (n + 1) * (256 ^ l.length * 256) := by rw [Nat.mul_assoc, Nat.mul_comm 256]
    omega
theorem ofBe_lt (l : List UInt8) : ofBe l < 256 ^ l.length := by
  have := foldBe_lt l 0
  simpa [ofBe] using this
theorem or_byte (a c : Nat) (hc : c < 256) (h : a * 256 + c < 18446744073709551616) :
    bits .or .u64 (IntKind.u64.wrap ((a : Int) * 256)) (IntKind.u64.wrap (c : Int)) = ((a * 256 + c : Nat) : Int) := by
  have k1 : a * 256 < 18446744073709551616 := Nat.lt_of_le_of_lt (Nat.le_add_right _ c) h
  have k2 : c < 18446744073709551616 := Nat.lt_of_le_of_lt (Nat.le_add_left c (a * 256)) h
  have e1 : IntKind.u64.wrap ((a : Int) * 256) = ((a * 256 : Nat) : Int) := by rw [IntKind.wrap_u64]; clear h; omega
  have e2 : IntKind.u64.wrap (c : Int) = (c : Int) := by rw [IntKind.wrap_u64]; clear h; omega
  rw [e1, e2, u64_or_nat (a * 256) c k1 k2]
  clear e1 e2
  have h2 : 2 ^ 8 * a + c = 2 ^ 8 * a ||| c := Nat.two_pow_add_eq_or_of_lt (i := 8) (by omega) a
  have e3 : 2 ^ 8 * a = a * 256 := by omega
  rw [e3] at h2
  rw [h2]
theorem take_one_more (s : ByteArray) (k : Nat) (h : k < s.size) : s.data.toList.take (k + 1) = s.data.toList.take k ++ [s[k]] := by
  rw [List.take_succ_eq_append_getElem (by simpa using h)]; rfl
theorem ofBe_take (s : ByteArray) (k : Nat) (h : k < s.size) (h8 : s.size ≤ 8) :
    bits .or .u64 (IntKind.u64.wrap ((ofBe (s.data.toList.take k) : Int) * 256)) (IntKind.u64.wrap (s[k].toNat : Int)) = (ofBe (s.data.toList.take (k + 1)) : Int) := by
  have hb := ofBe_lt (s.data.toList.take (k + 1))
  have hp : 256 ^ (s.data.toList.take (k + 1)).length ≤ 256 ^ 8 := Nat.pow_le_pow_right (by omega) (by simp; omega)
  rw [take_one_more s k h, ofBe_snoc] at *
  exact or_byte _ _ s[k].toNat_lt (Nat.lt_of_lt_of_le hb (Nat.le_trans hp (by decide)))
theorem add_take (s : ByteArray) (k : Nat) (h : k < s.size) (h8 : s.size ≤ 8) :
    IntKind.u64.wrap (IntKind.u64.wrap ((ofBe (s.data.toList.take k) : Int) * 256) + IntKind.u64.wrap (s[k].toNat : Int)) = (ofBe (s.data.toList.take (k + 1)) : Int) := by
  have hb := ofBe_lt (s.data.toList.take (k + 1))
  have hp : 256 ^ (s.data.toList.take (k + 1)).length ≤ 256 ^ 8 := Nat.pow_le_pow_right (by omega) (by simp; omega)
  have hlt : ofBe (s.data.toList.take (k + 1)) < 18446744073709551616 := Nat.lt_of_lt_of_le hb (Nat.le_trans hp (by decide))
  clear hb hp
  rw [take_one_more s k h, ofBe_snoc] at *
  generalize ofBe (s.data.toList.take k) = a at *
  generalize s[k].toNat = c at *
  simp only [IntKind.wrap_u64]
  have e : (((a : Int) * 256) % 18446744073709551616 + (c : Int) % 18446744073709551616) % 18446744073709551616 = ((a : Int) * 256 + c) % 18446744073709551616 := by rw [← Int.add_emod]
  rw [e]
  have e2 : ((a : Int) * 256 + c) = ((a * 256 + c : Nat) : Int) := by simp
  rw [e2]
  generalize a * 256 + c = m at *
  omega
/-- What a text is cut to. -/
def cutText (s : ByteArray) : ByteArray := s.extract 0 (min s.size 65535)
end Go.Proofs.YtehalcopkjfdkaaDoor
