/- Layer 19 as mathematics: which heads may be, how they are written and read; what is sealed, what is opened. It speaks of no function. -/
import Derived.Test.YtmnhpkdldeifgaaGreatDoorGd
import Derived.Test.YtmnhpkdldeifgaaGreatDoorGf
import Derived.Test.YtmnhpkdldeifgaaGreatDoorGh
import Derived.Test.YtmnhpkdldeifgaaGreatDoorGt
namespace Go.Proofs.YtmnhpkdldeifgaaGreatDoor
set_option maxRecDepth 100000

def headR (h : Head) : Bool := decide (h.id ≠ 0) && decide (1 ≤ h.role) && decide (h.role ≤ 2) && decide (0 ≤ h.epoch) && decide (h.epoch ≤ 65535) && decide (1 ≤ h.seq) && decide (h.seq ≤ 4096)
theorem headR_zero : headR Head.zero = false := rfl
theorem headR_true {h : Head} (q : headR h = true) : h.id ≠ 0 ∧ 1 ≤ h.role ∧ h.role ≤ 2 ∧ 0 ≤ h.epoch ∧ h.epoch ≤ 65535 ∧ 1 ≤ h.seq ∧ h.seq ≤ 4096 := by
  simp only [headR, Bool.and_eq_true, decide_eq_true_eq] at q
  omega
theorem headR_false {h : Head} (q : headR h = false) : ¬ (h.id ≠ 0 ∧ 1 ≤ h.role ∧ h.role ≤ 2 ∧ 0 ≤ h.epoch ∧ h.epoch ≤ 65535 ∧ 1 ≤ h.seq ∧ h.seq ≤ 4096) := by
  intro k
  have : headR h = true := by
    simp only [headR, Bool.and_eq_true, decide_eq_true_eq]
    omega
  rw [this] at q
  cases q
def headB (h : Head) : List UInt8 := [3] ++ be 8 h.id ++ be 1 (uN h.role) ++ be 2 (uN h.epoch) ++ be 4 (uN h.seq)
theorem headB_length (h : Head) : (headB h).length = 16 := by simp [headB, be_length]

/-- What stands behind a head's kind. -/
def hd0 (b : List UInt8) : RS := ⟨(b.take 16).drop 1, 0⟩
def hd1 (b : List UInt8) : RS := rawS (hd0 b) 8
def hd2 (b : List UInt8) : RS := rawS (hd1 b) 1
def hd3 (b : List UInt8) : RS := rawS (hd2 b) 2
def hd4 (b : List UInt8) : RS := rawS (hd3 b) 4
def headP (b : List UInt8) : Head := ⟨numO (hd0 b) 8, numO (hd1 b) 1, numO (hd2 b) 2, numO (hd3 b) 4⟩
theorem headP_ok (b : List UInt8) : (headP b).Ok := by
  have h0 := numO_lt (hd0 b) 8
  have h1 := numO_lt (hd1 b) 1
  have h2 := numO_lt (hd2 b) 2
  have h3 := numO_lt (hd3 b) 4
  refine ⟨?_, ?_, ?_, ?_⟩
  · show numO (hd0 b) 8 < 18446744073709551616
    omega
  · show -9223372036854775808 ≤ (numO (hd1 b) 1 : Int) ∧ (numO (hd1 b) 1 : Int) ≤ 9223372036854775807
    omega
  · show -9223372036854775808 ≤ (numO (hd2 b) 2 : Int) ∧ (numO (hd2 b) 2 : Int) ≤ 9223372036854775807
    omega
  · show -9223372036854775808 ≤ (numO (hd3 b) 4 : Int) ∧ (numO (hd3 b) 4 : Int) ≤ 9223372036854775807
    omega
def takeHdX (b : List UInt8) : Int := if kindB b ≠ 3 then 13 else if 2048 < b.length then 3 else if b.length < 32 then 10 else if headR (headP b) = true then 0 else 11
def takeHd (b : List UInt8) : Head := if takeHdX b = 0 then headP b else Head.zero
theorem takeHd_not {b : List UInt8} (h : takeHdX b ≠ 0) : takeHd b = Head.zero := by rw [takeHd, if_neg h]
theorem takeHd_ok {b : List UInt8} (h : takeHdX b = 0) : takeHd b = headP b ∧ headR (headP b) = true ∧ 32 ≤ b.length ∧ b.length ≤ 2048 := by
  refine ⟨by rw [takeHd, if_pos h], ?_⟩
  rw [takeHdX] at h
  split at h
  · exact absurd h (by decide)
  · split at h
    · exact absurd h (by decide)
    · split at h
      · exact absurd h (by decide)
      · split at h
        · rename_i q
          exact ⟨q, by omega, by omega⟩
        · exact absurd h (by decide)

def sealX (h : Head) (text : List UInt8) : Int := if headR h = false then 2 else if 2016 < text.length then 3 else 0
def sealR (root : List UInt8) (h : Head) (text : List UInt8) : List UInt8 := headB h ++ sealC (epochK root h.epoch) (nonceB (uN h.seq)) (headB h) text
def sealA (root : List UInt8) (h : Head) (text : List UInt8) : List UInt8 := if sealX h text = 0 then sealR root h text else []
theorem sealR_length (root : List UInt8) (h : Head) (text : List UInt8) : (sealR root h text).length = text.length + 32 := by
  rw [sealR, List.length_append, headB_length, sealC_length]
  omega
def opnX (root b : List UInt8) (h : Head) : Int := opC 32 12 (epochK root h.epoch) (nonceB (uN h.seq)) (b.take 16) (b.drop 16)
def opnB (root b : List UInt8) (h : Head) : List UInt8 := opA 32 12 (epochK root h.epoch) (nonceB (uN h.seq)) (b.take 16) (b.drop 16)
def openX (root b : List UInt8) : Int := if takeHdX b ≠ 0 then takeHdX b else opnX root b (headP b)
def openH (root b : List UInt8) : Head := if openX root b = 0 then headP b else Head.zero
def openB (root b : List UInt8) : List UInt8 := if openX root b = 0 then opnB root b (headP b) else []

theorem uN_small {i : Int} (h0 : 0 ≤ i) (h : i < 18446744073709551616) : (uN i : Int) = i := by
  rw [uN, Int.toNat_of_nonneg (Int.emod_nonneg i (by decide)), Int.emod_eq_of_lt h0 h]

/-- What was put is read. -/
theorem headP_put {h : Head} (q : headR h = true) (hi : h.id < 18446744073709551616) (r : List UInt8) : headP (headB h ++ r) = h := by
  obtain ⟨q0, q1, q2, q3, q4, q5, q6⟩ := headR_true q
  have e1 := uN_small (i := h.role) (by omega) (by omega)
  have e2 := uN_small (i := h.epoch) (by omega) (by omega)
  have e3 := uN_small (i := h.seq) (by omega) (by omega)
  have e0 : hd0 (headB h ++ r) = ⟨be 8 h.id ++ (be 1 (uN h.role) ++ (be 2 (uN h.epoch) ++ (be 4 (uN h.seq) ++ []))), 0⟩ := by
    rw [hd0, List.take_left' (headB_length h)]
    simp [headB]
  obtain ⟨a0, s0⟩ := num_put 8 h.id (be 1 (uN h.role) ++ (be 2 (uN h.epoch) ++ (be 4 (uN h.seq) ++ []))) (by omega)
  obtain ⟨a1, s1⟩ := num_put 1 (uN h.role) (be 2 (uN h.epoch) ++ (be 4 (uN h.seq) ++ [])) (by omega)
  obtain ⟨a2, s2⟩ := num_put 2 (uN h.epoch) (be 4 (uN h.seq) ++ []) (by omega)
  obtain ⟨a3, s3⟩ := num_put 4 (uN h.seq) [] (by omega)
  rw [headP, hd3, hd2, hd1, e0, s0, s1, s2, a0, a1, a2, a3, e1, e2, e3]
theorem kind_put (h : Head) (r : List UInt8) : kindB (headB h ++ r) = 3 := by
  rw [headB]
  rfl
theorem takeHdX_put {h : Head} (q : headR h = true) (hi : h.id < 18446744073709551616) (r : List UInt8) (h1 : 16 ≤ r.length) (h2 : r.length ≤ 2032) : takeHdX (headB h ++ r) = 0 := by
  have hl : (headB h ++ r).length = 16 + r.length := by rw [List.length_append, headB_length]
  rw [takeHdX, kind_put, headP_put q hi, if_neg (by decide), if_neg (by omega), if_neg (by omega), if_pos q]
theorem opn_put (root : List UInt8) (h : Head) (s : List UInt8) : opnX root (headB h ++ s) h = opC 32 12 (epochK root h.epoch) (nonceB (uN h.seq)) (headB h) s ∧ opnB root (headB h ++ s) h = opA 32 12 (epochK root h.epoch) (nonceB (uN h.seq)) (headB h) s := by
  rw [opnX, opnB, List.take_left' (headB_length h), List.drop_left' (headB_length h)]
  exact ⟨rfl, rfl⟩
/-- What is sealed is opened. -/
theorem open_seal {root : List UInt8} {h : Head} {text : List UInt8} (q : headR h = true) (hi : h.id < 18446744073709551616) (ht : text.length ≤ 2016) :
    openX root (sealR root h text) = 0 ∧ openH root (sealR root h text) = h ∧ openB root (sealR root h text) = text := by
  obtain ⟨k1, k2⟩ := seal_opens (epochK root h.epoch) (nonceB (uN h.seq)) (headB h) text
  obtain ⟨o1, o2⟩ := opn_put root h (sealC (epochK root h.epoch) (nonceB (uN h.seq)) (headB h) text)
  have t := takeHdX_put q hi (sealC (epochK root h.epoch) (nonceB (uN h.seq)) (headB h) text) (by rw [sealC_length]; omega) (by rw [sealC_length]; omega)
  have p := headP_put q hi (sealC (epochK root h.epoch) (nonceB (uN h.seq)) (headB h) text)
  have x : openX root (sealR root h text) = 0 := by rw [openX, sealR, t, if_neg (by decide), p, o1, k1]
  refine ⟨x, ?_, ?_⟩
  · rw [openH, if_pos x, sealR, p]
  · rw [openB, if_pos x, sealR, p, o2, k2]
/-- With one byte of its tag changed it is not opened. -/
theorem open_changed {root : List UInt8} {h : Head} {text : List UInt8} (q : headR h = true) (hi : h.id < 18446744073709551616) (ht : text.length ≤ 2016) (i : Nat) (x : UInt8) (hx : i < 16)
    (hne : (boxTag (epochK root h.epoch) (nonceB (uN h.seq)) (headB h) (xorC (epochK root h.epoch) (nonceB (uN h.seq)) 1 text))[i]? ≠ some x) :
    openX root ((sealR root h text).set (16 + (text.length + i)) x) = 21 := by
  obtain ⟨k1, k2⟩ := seal_changed (epochK root h.epoch) (nonceB (uN h.seq)) (headB h) text i x hx hne
  have es : (sealR root h text).set (16 + (text.length + i)) x = headB h ++ (sealC (epochK root h.epoch) (nonceB (uN h.seq)) (headB h) text).set (text.length + i) x := by
    rw [sealR, List.set_append_right _ _ (by rw [headB_length]; omega), headB_length, Nat.add_sub_cancel_left]
  obtain ⟨o1, o2⟩ := opn_put root h ((sealC (epochK root h.epoch) (nonceB (uN h.seq)) (headB h) text).set (text.length + i) x)
  have t := takeHdX_put q hi ((sealC (epochK root h.epoch) (nonceB (uN h.seq)) (headB h) text).set (text.length + i) x) (by rw [List.length_set, sealC_length]; omega) (by rw [List.length_set, sealC_length]; omega)
  have p := headP_put q hi ((sealC (epochK root h.epoch) (nonceB (uN h.seq)) (headB h) text).set (text.length + i) x)
  rw [es, openX, t, if_neg (by decide), p, o1, k1]
end Go.Proofs.YtmnhpkdldeifgaaGreatDoor
