/- What the texts of layer 8's statements lean on of package box, as one thing to prove: each call's answer; and what follows for texts that were sealed. Layer 19 as mathematics: which heads may be, how they are written and read; what is sealed, what is opened. It speaks of no function. -/
import Derived.Test.YtmnhpkdldeifgaaDoorGl
import Derived.Test.YtmnhpkdldeifgaaDoorGd
import Derived.Test.YtmnhpkdldeifgaaDoorGg
import Derived.Test.YtmnhpkdldeifgaaDoorGh
namespace Go.Proofs.YtmnhpkdldeifgaaDoor
set_option maxRecDepth 100000
open Go.RowKit

structure BoxIs : Prop where
  nonce : ∀ (n : Nat) (w : World) (_ : n < 18446744073709551616),
    Calls Tryd.prog 33 #[.int .u64 (n : Int)] w fun e w' => ∃ v', e = .returned v' ∧ BytesAt w' v' (nonceB n) ∧ Below w.heap.size w w'
  sealBad : ∀ (A0 A1 A2 A3 : Option Addr) (n0 n1 n2 n3 cap0 cap1 cap2 cap3 : Nat) (key nonce wth msg : List UInt8) (w : World) (_ : n0 ≠ 32 ∨ n1 ≠ 12) (_ : n2 ≤ 100000) (_ : n3 ≤ 100000)
    (_ : BytesAt w (.slice A0 n0 cap0) key) (_ : BytesAt w (.slice A1 n1 cap1) nonce) (_ : BytesAt w (.slice A2 n2 cap2) wth) (_ : BytesAt w (.slice A3 n3 cap3) msg),
    Calls Tryd.prog 25 #[.slice A0 n0 cap0, .slice A1 n1 cap1, .slice A2 n2 cap2, .slice A3 n3 cap3] w fun e w' => ∃ v', e = .returned (.tuple #[v', .int .i64 2]) ∧ BytesAt w' v' [] ∧ Below w.heap.size w w'
  seals : ∀ (A0 A1 A2 A3 : Option Addr) (n2 n3 cap0 cap1 cap2 cap3 : Nat) (key nonce wth msg : List UInt8) (w : World) (_ : n2 ≤ 100000) (_ : n3 ≤ 100000)
    (_ : BytesAt w (.slice A0 32 cap0) key) (_ : BytesAt w (.slice A1 12 cap1) nonce) (_ : BytesAt w (.slice A2 n2 cap2) wth) (_ : BytesAt w (.slice A3 n3 cap3) msg),
    Calls Tryd.prog 25 #[.slice A0 32 cap0, .slice A1 12 cap1, .slice A2 n2 cap2, .slice A3 n3 cap3] w fun e w' => ∃ v', e = .returned (.tuple #[v', .int .i64 0]) ∧ Fresh w' w.heap.size v' (sealC key nonce wth msg) ∧ Below w.heap.size w w'
  opens : ∀ (A0 A1 A2 A3 : Option Addr) (n0 n1 n2 n3 cap0 cap1 cap2 cap3 : Nat) (key nonce wth sealed : List UInt8) (w : World) (_ : n2 ≤ 100000) (_ : n3 ≤ 100000)
    (_ : BytesAt w (.slice A0 n0 cap0) key) (_ : BytesAt w (.slice A1 n1 cap1) nonce) (_ : BytesAt w (.slice A2 n2 cap2) wth) (_ : BytesAt w (.slice A3 n3 cap3) sealed),
    Calls Tryd.prog 27 #[.slice A0 n0 cap0, .slice A1 n1 cap1, .slice A2 n2 cap2, .slice A3 n3 cap3] w fun e w' => ∃ v', e = .returned (.tuple #[v', .int .i64 (opC n0 n1 key nonce wth sealed)]) ∧ BytesAt w' v' (opA n0 n1 key nonce wth sealed) ∧ Below w.heap.size w w'

theorem BoxIs.sealAll (H : BoxIs) (A0 A1 A2 A3 : Option Addr) (n0 n1 n2 n3 cap0 cap1 cap2 cap3 : Nat) (key nonce wth msg : List UInt8) (w : World) (hn2 : n2 ≤ 100000) (hn3 : n3 ≤ 100000)
    (h0 : BytesAt w (.slice A0 n0 cap0) key) (h1 : BytesAt w (.slice A1 n1 cap1) nonce) (h2 : BytesAt w (.slice A2 n2 cap2) wth) (h3 : BytesAt w (.slice A3 n3 cap3) msg) :
    Calls Tryd.prog 25 #[.slice A0 n0 cap0, .slice A1 n1 cap1, .slice A2 n2 cap2, .slice A3 n3 cap3] w fun e w' => ∃ v', e = .returned (.tuple #[v', .int .i64 (seC n0 n1)]) ∧ BytesAt w' v' (seA n0 n1 key nonce wth msg) ∧ Below w.heap.size w w' := by
  by_cases h : n0 ≠ 32 ∨ n1 ≠ 12
  · rw [seA, seC, if_pos h, if_pos h]
    exact H.sealBad A0 A1 A2 A3 n0 n1 n2 n3 cap0 cap1 cap2 cap3 key nonce wth msg w h hn2 hn3 h0 h1 h2 h3
  · rw [seA, seC, if_neg h, if_neg h]
    obtain rfl : n0 = 32 := by omega
    obtain rfl : n1 = 12 := by omega
    exact (H.seals A0 A1 A2 A3 n2 n3 cap0 cap1 cap2 cap3 key nonce wth msg w hn2 hn3 h0 h1 h2 h3).mono fun _ _ ⟨v', he, hf, hb⟩ => ⟨v', he, hf.bytes, hb⟩

theorem seal_take (key nonce wth msg : List UInt8) : (sealC key nonce wth msg).take ((sealC key nonce wth msg).length - 16) = xorC key nonce 1 msg := by
  rw [sealC_length, Nat.add_sub_cancel, sealC]
  exact List.take_left' (xorC_length ..)
theorem seal_drop (key nonce wth msg : List UInt8) : (sealC key nonce wth msg).drop ((sealC key nonce wth msg).length - 16) = boxTag key nonce wth (xorC key nonce 1 msg) := by
  rw [sealC_length, Nat.add_sub_cancel, sealC]
  exact List.drop_left' (xorC_length ..)
theorem seal_good (key nonce wth msg : List UInt8) : goodTag key nonce wth (sealC key nonce wth msg) := by
  rw [goodTag, seal_take, seal_drop]
theorem seal_opens (key nonce wth msg : List UInt8) : opC 32 12 key nonce wth (sealC key nonce wth msg) = 0 ∧ opA 32 12 key nonce wth (sealC key nonce wth msg) = msg := by
  have h1 : ¬ ((32 : Nat) ≠ 32 ∨ (12 : Nat) ≠ 12) := by decide
  have h2 : ¬ (sealC key nonce wth msg).length < 16 := by rw [sealC_length]; omega
  rw [opC, opA, if_neg h1, if_neg h1, if_neg h2, if_neg h2, if_pos (seal_good ..), if_pos (seal_good ..), seal_take, xorC_xorC]
  exact ⟨rfl, rfl⟩
/-- With one byte of its tag changed it is not opened. -/
theorem seal_changed (key nonce wth msg : List UInt8) (i : Nat) (x : UInt8) (hi : i < 16) (hx : (boxTag key nonce wth (xorC key nonce 1 msg))[i]? ≠ some x) :
    opC 32 12 key nonce wth ((sealC key nonce wth msg).set (msg.length + i) x) = 21 ∧ opA 32 12 key nonce wth ((sealC key nonce wth msg).set (msg.length + i) x) = [] := by
  have h1 : ¬ ((32 : Nat) ≠ 32 ∨ (12 : Nat) ≠ 12) := by decide
  have hl : ((sealC key nonce wth msg).set (msg.length + i) x).length = msg.length + 16 := by rw [List.length_set, sealC_length]
  have h2 : ¬ ((sealC key nonce wth msg).set (msg.length + i) x).length < 16 := by omega
  have hxl : (xorC key nonce 1 msg).length = msg.length := xorC_length ..
  have es : (sealC key nonce wth msg).set (msg.length + i) x = xorC key nonce 1 msg ++ (boxTag key nonce wth (xorC key nonce 1 msg)).set i x := by
    rw [sealC, List.set_append_right _ _ (by omega), hxl, Nat.add_sub_cancel_left]
  have h3 : ¬ goodTag key nonce wth ((sealC key nonce wth msg).set (msg.length + i) x) := by
    rw [goodTag, hl, Nat.add_sub_cancel, es, List.take_left' hxl, List.drop_left' hxl]
    intro e
    apply hx
    rw [e, List.getElem?_set_self (by rw [boxTag_length]; exact hi)]
  rw [opC, opA, if_neg h1, if_neg h1, if_neg h2, if_neg h2, if_neg h3, if_neg h3]
  exact ⟨rfl, rfl⟩
end Go.Proofs.YtmnhpkdldeifgaaDoor

namespace Go.Proofs.YtmnhpkdldeifgaaDoor
set_option maxRecDepth 100000

def headR (h : Head) : Bool := decide (h.id ≠ 0) && decide (1 ≤ h.role) && decide (h.role ≤ 2) && decide (0 ≤ h.epoch) && decide (h.epoch ≤ 65535) && decide (1 ≤ h.seq) && decide (h.seq ≤ 4096)
theorem headR_zero : headR Head.zero = false := rfl
theorem headR_true {h : Head} (q : headR h = true) : h.id ≠ 0 ∧ 1 ≤ h.role ∧ h.role ≤ 2 ∧ 0 ≤ h.epoch ∧ h.epoch ≤ 65535 ∧ 1 ≤ h.seq ∧ h.seq ≤ 4096 := by
  simp only [headR, Bool.and_eq_true, decide_eq_true_eq] at q
  omega
theorem headR_false {h : Head} (q : headR h = false) : ¬ (h.id ≠ 0 ∧ 1 ≤ h.role ∧ h.role ≤ 2 ∧ 0 ≤ h.epoch ∧ h.epoch ≤ 65535 ∧ 1 ≤ h.seq ∧ h.seq ≤ 4096) := by
  intro k
  have : headR h = true := by
    simp only [headR, Bool.and_eq_true, decide_eq_true_eq]
    omega
  rw [this] at q
  cases q
def headB (h : Head) : List UInt8 := [3] ++ be 8 h.id ++ be 1 (uN h.role) ++ be 2 (uN h.epoch) ++ be 4 (uN h.seq)
theorem headB_length (h : Head) : (headB h).length = 16 := by simp [headB, be_length]

/-- What stands behind a head's kind. -/
def hd0 (b : List UInt8) : RS := ⟨(b.take 16).drop 1, 0⟩
def hd1 (b : List UInt8) : RS := rawS (hd0 b) 8
def hd2 (b : List UInt8) : RS := rawS (hd1 b) 1
def hd3 (b : List UInt8) : RS := rawS (hd2 b) 2
def hd4 (b : List UInt8) : RS := rawS (hd3 b) 4
def headP (b : List UInt8) : Head := ⟨numO (hd0 b) 8, numO (hd1 b) 1, numO (hd2 b) 2, numO (hd3 b) 4⟩
theorem headP_ok (b : List UInt8) : (headP b).Ok := by
  have h0 := numO_lt (hd0 b) 8
  have h1 := numO_lt (hd1 b) 1
  have h2 := numO_lt (hd2 b) 2
  have h3 := numO_lt (hd3 b) 4
  refine ⟨?_, ?_, ?_, ?_⟩
  · show numO (hd0 b) 8 < 18446744073709551616
    omega
  · show -9223372036854775808 ≤ (numO (hd1 b) 1 : Int) ∧ (numO (hd1 b) 1 : Int) ≤ 9223372036854775807
    omega
  · show -9223372036854775808 ≤ (numO (hd2 b) 2 : Int) ∧ (numO (hd2 b) 2 : Int) ≤ 9223372036854775807
    omega
  · show -9223372036854775808 ≤ (numO (hd3 b) 4 : Int) ∧ (numO (hd3 b) 4 : Int) ≤ 9223372036854775807
    omega
def takeHdX (b : List UInt8) : Int := if kindB b ≠ 3 then 13 else if 2048 < b.length then 3 else if b.length < 32 then 10 else if headR (headP b) = true then 0 else 11
def takeHd (b : List UInt8) : Head := if takeHdX b = 0 then headP b else Head.zero
theorem takeHd_not {b : List UInt8} (h : takeHdX b ≠ 0) : takeHd b = Head.zero := by rw [takeHd, if_neg h]
theorem takeHd_ok {b : List UInt8} (h : takeHdX b = 0) : takeHd b = headP b ∧ headR (headP b) = true ∧ 32 ≤ b.length ∧ b.length ≤ 2048 := by
  refine ⟨by rw [takeHd, if_pos h], ?_⟩
  rw [takeHdX] at h
  split at h
  · exact absurd h (by decide)
  · split at h
    · exact absurd h (by decide)
    · split at h
      · exact absurd h (by decide)
      · split at h
        · rename_i q
          exact ⟨q, by omega, by omega⟩
        · exact absurd h (by decide)

def sealX (h : Head) (text : List UInt8) : Int := if headR h = false then 2 else if 2016 < text.length then 3 else 0
def sealR (root : List UInt8) (h : Head) (text : List UInt8) : List UInt8 := headB h ++ sealC (epochK root h.epoch) (nonceB (uN h.seq)) (headB h) text
def sealA (root : List UInt8) (h : Head) (text : List UInt8) : List UInt8 := if sealX h text = 0 then sealR root h text else []
theorem sealR_length (root : List UInt8) (h : Head) (text : List UInt8) : (sealR root h text).length = text.length + 32 := by
  rw [sealR, List.length_append, headB_length, sealC_length]
  omega
def opnX (root b : List UInt8) (h : Head) : Int := opC 32 12 (epochK root h.epoch) (nonceB (uN h.seq)) (b.take 16) (b.drop 16)
def opnB (root b : List UInt8) (h : Head) : List UInt8 := opA 32 12 (epochK root h.epoch) (nonceB (uN h.seq)) (b.take 16) (b.drop 16)
def openX (root b : List UInt8) : Int := if takeHdX b ≠ 0 then takeHdX b else opnX root b (headP b)
def openH (root b : List UInt8) : Head := if openX root b = 0 then headP b else Head.zero
def openB (root b : List UInt8) : List UInt8 := if openX root b = 0 then opnB root b (headP b) else []

theorem uN_small {i : Int} (h0 : 0 ≤ i) (h : i < 18446744073709551616) : (uN i : Int) = i := by
  rw [uN, Int.toNat_of_nonneg (Int.emod_nonneg i (by decide)), Int.emod_eq_of_lt h0 h]

/-- What was put is read. -/
theorem headP_put {h : Head} (q : headR h = true) (hi : h.id < 18446744073709551616) (r : List UInt8) : headP (headB h ++ r) = h := by
  obtain ⟨q0, q1, q2, q3, q4, q5, q6⟩ := headR_true q
  have e1 := uN_small (i := h.role) (by omega) (by omega)
  have e2 := uN_small (i := h.epoch) (by omega) (by omega)
  have e3 := uN_small (i := h.seq) (by omega) (by omega)
  have e0 : hd0 (headB h ++ r) = ⟨be 8 h.id ++ (be 1 (uN h.role) ++ (be 2 (uN h.epoch) ++ (be 4 (uN h.seq) ++ []))), 0⟩ := by
    rw [hd0, List.take_left' (headB_length h)]
    simp [headB]
  obtain ⟨a0, s0⟩ := num_put 8 h.id (be 1 (uN h.role) ++ (be 2 (uN h.epoch) ++ (be 4 (uN h.seq) ++ []))) (by omega)
  obtain ⟨a1, s1⟩ := num_put 1 (uN h.role) (be 2 (uN h.epoch) ++ (be 4 (uN h.seq) ++ [])) (by omega)
  obtain ⟨a2, s2⟩ := num_put 2 (uN h.epoch) (be 4 (uN h.seq) ++ []) (by omega)
  obtain ⟨a3, s3⟩ := num_put 4 (uN h.seq) [] (by omega)
  rw [headP, hd3, hd2, hd1, e0, s0, s1, s2, a0, a1, a2, a3, e1, e2, e3]
theorem kind_put (h : Head) (r : List UInt8) : kindB (headB h ++ r) = 3 := by
  rw [headB]
  rfl
theorem takeHdX_put {h : Head} (q : headR h = true) (hi : h.id < 18446744073709551616) (r : List UInt8) (h1 : 16 ≤ r.length) (h2 : r.length ≤ 2032) : takeHdX (headB h ++ r) = 0 := by
  have hl : (headB h ++ r).length = 16 + r.length := by rw [List.length_append, headB_length]
  rw [takeHdX, kind_put, headP_put q hi, if_neg (by decide), if_neg (by omega), if_neg (by omega), if_pos q]
theorem opn_put (root : List UInt8) (h : Head) (s : List UInt8) : opnX root (headB h ++ s) h = opC 32 12 (epochK root h.epoch) (nonceB (uN h.seq)) (headB h) s ∧ opnB root (headB h ++ s) h = opA 32 12 (epochK root h.epoch) (nonceB (uN h.seq)) (headB h) s := by
  rw [opnX, opnB, List.take_left' (headB_length h), List.drop_left' (headB_length h)]
  exact ⟨rfl, rfl⟩
/-- What is sealed is opened. -/
theorem open_seal {root : List UInt8} {h : Head} {text : List UInt8} (q : headR h = true) (hi : h.id < 18446744073709551616) (ht : text.length ≤ 2016) :
    openX root (sealR root h text) = 0 ∧ openH root (sealR root h text) = h ∧ openB root (sealR root h text) = text := by
  obtain ⟨k1, k2⟩ := seal_opens (epochK root h.epoch) (nonceB (uN h.seq)) (headB h) text
  obtain ⟨o1, o2⟩ := opn_put root h (sealC (epochK root h.epoch) (nonceB (uN h.seq)) (headB h) text)
  have t := takeHdX_put q hi (sealC (epochK root h.epoch) (nonceB (uN h.seq)) (headB h) text) (by rw [sealC_length]; omega) (by rw [sealC_length]; omega)
  have p := headP_put q hi (sealC (epochK root h.epoch) (nonceB (uN h.seq)) (headB h) text)
  have x : openX root (sealR root h text) = 0 := by rw [openX, sealR, t, if_neg (by decide), p, o1, k1]
  refine ⟨x, ?_, ?_⟩
  · rw [openH, if_pos x, sealR, p]
  · rw [openB, if_pos x, sealR, p, o2, k2]
/-- With one byte of its tag changed it is not opened. -/
theorem open_changed {root : List UInt8} {h : Head} {text : List UInt8} (q : headR h = true) (hi : h.id < 18446744073709551616) (ht : text.length ≤ 2016) (i : Nat) (x : UInt8) (hx : i < 16)
    (hne : (boxTag (epochK root h.epoch) (nonceB (uN h.seq)) (headB h) (xorC (epochK root h.epoch) (nonceB (uN h.seq)) 1 text))[i]? ≠ some x) :
    openX root ((sealR root h text).set (16 + (text.length + i)) x) = 21 := by
  obtain ⟨k1, k2⟩ := seal_changed (epochK root h.epoch) (nonceB (uN h.seq)) (headB h) text i x hx hne
  have es : (sealR root h text).set (16 + (text.length + i)) x = headB h ++ (sealC (epochK root h.epoch) (nonceB (uN h.seq)) (headB h) text).set (text.length + i) x := by
    rw [sealR, List.set_append_right _ _ (by rw [headB_length]; omega), headB_length, Nat.add_sub_cancel_left]
  obtain ⟨o1, o2⟩ := opn_put root h ((sealC (epochK root h.epoch) (nonceB (uN h.seq)) (headB h) text).set (text.length + i) x)
  have t := takeHdX_put q hi ((sealC (epochK root h.epoch) (nonceB (uN h.seq)) (headB h) text).set (text.length + i) x) (by rw [List.length_set, sealC_length]; omega) (by rw [List.length_set, sealC_length]; omega)
  have p := headP_put q hi ((sealC (epochK root h.epoch) (nonceB (uN h.seq)) (headB h) text).set (text.length + i) x)
  rw [es, openX, t, if_neg (by decide), p, o1, k1]
end Go.Proofs.YtmnhpkdldeifgaaDoor
