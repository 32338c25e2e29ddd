/- What the texts of layer 7's statements lean on of package poly, as one thing to prove: each call's answer. And the document's, for keys of any length. -/
import Derived.Test.YtbdcligpbogkjaaPoT
namespace Go.Proofs.Ytbdcligpbogkjaa
open Go.RowKit

/-- Bytes in a row that was not there before. -/
def Fresh (w : World) (B : Nat) (v : Value) (l : List UInt8) : Prop :=
  ∃ g off cap t cs, v = .slice (some ⟨g, off, none⟩) l.length cap ∧ l.length ≤ cap ∧ B ≤ g ∧ Whole w g t cs ∧ ∀ j c, l[j]? = some c → cs[off + j]? = some (.int .u8 (c.toNat : Int))
theorem Fresh.bytes {w : World} {B : Nat} {v : Value} {l : List UInt8} (h : Fresh w B v l) : BytesAt w v l := by
  obtain ⟨g, off, cap, t, cs, rfl, hc, -, hw, hcell⟩ := h
  refine ⟨_, cap, rfl, hc, fun _ => ⟨_, rfl, fun j c hj => ?_⟩⟩
  have ha : (⟨g, off, none⟩ : Addr).add j = ⟨g, off + j, none⟩ := by unfold Addr.add; split <;> simp_all
  rw [ha, hw.at_]
  exact hcell j c hj
theorem Fresh.of_own {w : World} {B : Nat} {v : Value} {l : List UInt8} (h : w.ownsRow B 5 1 v l.length (bv l)) (hl : 0 < l.length) : Fresh w B v l := by
  have hx := h
  rcases h.2 with ⟨-, h0⟩ | ⟨g, cap, cur, rfl, hB, hg, hc, _, _, _⟩
  · omega
  · refine ⟨g, 0, cap, _, cur, rfl, hc, hB, hg, fun j c hj => ?_⟩
    have hjl : j < l.length := (List.getElem?_eq_some_iff.1 hj).1
    have q := hx.cellAt j (by omega)
    rw [Whole.at_ (show Whole w g _ cur from hg) j] at q
    rw [Nat.zero_add, q]
    simp [bv, hj]

def tagA (n0 : Nat) (key msg : List UInt8) : List UInt8 := if n0 = 32 then tagL key msg else []
def tagE (n0 : Nat) : Int := if n0 = 32 then 0 else 2

structure PolyIs : Prop where
  clamp : ∀ (A : Option Addr) (n cap : Nat) (l : List UInt8) (w : World) (_ : n ≤ 1000000) (_ : BytesAt w (.slice A n cap) l),
    Calls Try.prog 11 #[.slice A n cap] w fun e w' => ∃ v', e = .returned v' ∧ BytesAt w' v' (clampL l) ∧ Below w.heap.size w w'
  tagBad : ∀ (A0 A1 : Option Addr) (n0 n1 cap0 cap1 : Nat) (w : World) (_ : n0 ≠ 32) (_ : n1 ≤ 1000000),
    Calls Try.prog 7 #[.slice A0 n0 cap0, .slice A1 n1 cap1] w fun e w' => ∃ v', e = .returned (.tuple #[v', .int .i64 2]) ∧ BytesAt w' v' [] ∧ Below w.heap.size w w'
  tag : ∀ (A0 A1 : Option Addr) (n cap0 cap1 : Nat) (key msg : List UInt8) (w : World) (_ : n ≤ 1000000) (_ : BytesAt w (.slice A0 32 cap0) key) (_ : BytesAt w (.slice A1 n cap1) msg),
    Calls Try.prog 7 #[.slice A0 32 cap0, .slice A1 n cap1] w fun e w' => ∃ v', e = .returned (.tuple #[v', .int .i64 0]) ∧ Fresh w' w.heap.size v' (tagL key msg) ∧ Below w.heap.size w w'
  check : ∀ (A0 A1 A2 : Option Addr) (n0 n1 n2 cap0 cap1 cap2 : Nat) (key msg tag : List UInt8) (w : World) (_ : n1 ≤ 1000000) (_ : n2 ≤ 1000000) (_ : BytesAt w (.slice A0 n0 cap0) key) (_ : BytesAt w (.slice A1 n1 cap1) msg) (_ : BytesAt w (.slice A2 n2 cap2) tag),
    Calls Try.prog 9 #[.slice A0 n0 cap0, .slice A1 n1 cap1, .slice A2 n2 cap2] w fun e w' => e = .returned (.bool (decide (n0 = 32 ∧ tagL key msg = tag))) ∧ Below w.heap.size w w'

theorem polyTag_all (H : PolyIs) (A0 A1 : Option Addr) (n0 n1 cap0 cap1 : Nat) (key msg : List UInt8) (w : World) (hn : n1 ≤ 1000000) (h0 : BytesAt w (.slice A0 n0 cap0) key) (h1 : BytesAt w (.slice A1 n1 cap1) msg) :
    Calls Try.prog 7 #[.slice A0 n0 cap0, .slice A1 n1 cap1] w fun e w' => ∃ v', e = .returned (.tuple #[v', .int .i64 (tagE n0)]) ∧ BytesAt w' v' (tagA n0 key msg) ∧ Below w.heap.size w w' := by
  by_cases h : n0 = 32
  · subst h
    have e : tagE 32 = 0 := rfl
    have e2 : tagA 32 key msg = tagL key msg := by rw [tagA, if_pos rfl]
    rw [e, e2]
    refine (H.tag A0 A1 n1 cap0 cap1 key msg w hn h0 h1).mono ?_
    rintro e w' ⟨v', rfl, y, b⟩
    exact ⟨v', rfl, y.bytes, b⟩
  · rw [tagE, tagA, if_neg h, if_neg h]
    exact H.tagBad A0 A1 n0 n1 cap0 cap1 w h hn
theorem refTag_all (A0 A1 : Option Addr) (n0 n1 cap0 cap1 : Nat) (key msg : List UInt8) (w : World) (hn : n1 ≤ 1000000) (h0 : BytesAt w (.slice A0 n0 cap0) key) (h1 : BytesAt w (.slice A1 n1 cap1) msg) :
    Calls Try.prog 8 #[.slice A0 n0 cap0, .slice A1 n1 cap1] w fun e w' => ∃ v', e = .returned (.tuple #[v', .int .i64 (tagE n0)]) ∧ BytesAt w' v' (tagA n0 key msg) ∧ Below w.heap.size w w' := by
  by_cases h : n0 = 32
  · subst h
    have e : tagE 32 = 0 := rfl
    have e2 : tagA 32 key msg = tagL key msg := by rw [tagA, if_pos rfl]
    rw [e, e2]
    exact refTag_any A0 A1 n1 cap0 cap1 key msg hn w h0 h1
  · rw [tagE, tagA, if_neg h, if_neg h]
    refine (refTag_bad A0 n0 cap0 _ h w).mono ?_
    rintro e w' ⟨rfl, b⟩
    exact ⟨_, rfl, BytesAt.nil w', b⟩

set_option maxHeartbeats 1000000 in
theorem refCheck_all (A0 A1 A2 : Option Addr) (n0 n1 n2 cap0 cap1 cap2 : Nat) (key msg tag : List UInt8) (w : World) (hn : n1 ≤ 1000000) (h0 : BytesAt w (.slice A0 n0 cap0) key) (h1 : BytesAt w (.slice A1 n1 cap1) msg) (h2 : BytesAt w (.slice A2 n2 cap2) tag) :
    Calls Try.prog 10 #[.slice A0 n0 cap0, .slice A1 n1 cap1, .slice A2 n2 cap2] w fun e w' => e = .returned (.bool (decide (n0 = 32 ∧ tagL key msg = tag))) ∧ Below w.heap.size w w' := by
  have CT := Lib.hid (refTag_all A0 A1 n0 n1 cap0 cap1 key msg w hn h0 h1)
  have H2 := Lib.hid h2
  clear h0 h1 h2
  by_cases h : n0 = 32
  · subst h
    have e : tagE 32 = 0 := rfl
    have e2 : tagA 32 key msg = tagL key msg := by rw [tagA, if_pos rfl]
    rw [e, e2] at CT
    have D : (tagL key msg == tag) = decide (tagL key msg = tag) := by rw [Bool.eq_iff_iff, beq_iff_eq, decide_eq_true_eq]
    have HD : Hid (decide (32 = 32 ∧ tagL key msg = tag) = decide (tagL key msg = tag)) := Lib.hid (by simp)
    clear e e2
    go_enter Try.func10, Try.ntmps10
    go_wp2_with fail
    refine CT.out.mono ?_
    rintro e w1 ⟨v1, rfl, y1, b1⟩
    have r1 := conv_bytes y1
    have r2 := conv_bytes (H2.out.below b1)
    have B1 := Lib.hid b1
    clear y1 b1
    go_wp2
    go_ret
    exact ⟨by rw [HD.out]; rfl, B1.out⟩
  · have e : tagE n0 = 2 := by rw [tagE, if_neg h]
    have d : decide (n0 = 32 ∧ tagL key msg = tag) = false := by simp [h]
    rw [e] at CT
    rw [d]
    clear e d
    go_enter Try.func10, Try.ntmps10
    go_wp2_with fail
    refine CT.out.mono ?_
    rintro e w1 ⟨v1, rfl, -, b1⟩
    have B1 := Lib.hid b1
    clear b1
    go_wp2
    go_ret
    exact ⟨rfl, B1.out⟩
end Go.Proofs.Ytbdcligpbogkjaa
