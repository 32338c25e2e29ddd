/- Over XGenA's words: the document's own reader (carcanetref01.R): contracts of its methods. -/
import Derived.Test.YtpcdbpijgmninaaDoorGd
import Derived.Deep.QuietTactic
import Derived.BigQuiet
namespace Go.Proofs.YtpcdbpijgmninaaDoor
set_option maxRecDepth 100000
open Go.RowKit

/-- The document's reader: its bytes, its place, and the error that it met. -/
def Rf (w : World) (g : Nat) (v : Value) (at_ : Nat) (e : Int) : Prop := Whole w g 105 #[v, .int .i64 (at_ : Int), .int .i64 e]
def RfTo (w : World) (g : Nat) (v : Value) (at_ : Nat) (e : Int) (w' : World) : Prop := Rf w' g v at_ e ∧ w.grownBy w' (some g)
theorem RfTo.trans {a b c : World} {g : Nat} {v : Value} {n n' : Nat} {e e' : Int} (h : RfTo a g v n e b) (k : RfTo b g v n' e' c) : RfTo a g v n' e' c := ⟨k.1, grown_trans' h.2 k.2⟩
theorem grown_store' (w : World) (n g i : Nat) (u : Value) : w.grownBy ((w.drewN n).setCell ⟨g, i, none⟩ u) (some g) :=
  grown_trans' (grown_drewN (World.grownBy.refl w _) n) (grown_store _ _ _ _)
theorem RfTo.drewN {a w : World} {g : Nat} {v : Value} {n : Nat} {e : Int} (h : RfTo a g v n e w) (k : Nat) : RfTo a g v n e (w.drewN k) := ⟨h.1, grown_drewN h.2 k⟩


/-- A part of a slice of bytes. -/
theorem BytesAt.part {w : World} {A : Option Addr} {l : List UInt8} {cap : Nat} (h : BytesAt w (.slice A l.length cap) l) (p n : Nat) (hp : p + n ≤ l.length) :
    ∃ vs, (∀ W, (Instr.slice 42 (.slice A l.length cap) (some (.int .i64 (p : Int))) (some (.int .i64 ((p : Int) + n))) none).run Tryd.prog W = .ok vs W) ∧ BytesAt w vs ((l.drop p).take n) := by
  obtain ⟨A', cap', e, hcap, hc⟩ := h
  injection e with e1 e2 e3
  subst e1 e3
  refine ⟨.slice (if cap = p then A else A.map (·.add (p * 1))) n (cap - p), fun W => ?_, ?_⟩
  · rw [run_slice_lh W 42 A l.length cap Tryd.underlying42 .i64 .i64 _ _ (by omega) (by omega) (by omega)]
    have hs : (sizeOf (Tryd.prog.elem 42)).run Tryd.prog W = .ok 1 W := by kernel_rfl
    rw [hs]
    have e4 : ((p : Int) + n).toNat - p = n := by omega
    simp [Result.andThen, sliced, e4]
  · have hlen : ((l.drop p).take n).length = n := by simp; omega
    refine ⟨_, cap - p, by rw [hlen], by omega, fun hne => ?_⟩
    have hn : 0 < n := by
      rcases Nat.eq_zero_or_pos n with h0 | h0
      · subst h0; simp at hne
      · exact h0
    obtain ⟨ad, rfl, hcell⟩ := hc (by rintro rfl; simp at hp; omega)
    rw [if_neg (by omega)]
    refine ⟨_, rfl, fun j c hj => ?_⟩
    have ha : (ad.add (p * 1)).add j = ad.add (p + j) := by
      rw [Nat.mul_one]
      unfold Addr.add
      by_cases hi : p = 0 <;> by_cases hj : j = 0 <;> simp [hi, hj, Nat.add_assoc]
    rw [ha]
    refine hcell (p + j) c ?_
    rw [List.getElem?_take] at hj
    split at hj
    · rwa [List.getElem?_drop] at hj
    · cases hj

set_option maxHeartbeats 400000 in
theorem ref_open (A : Option Addr) (n c : Nat) (w : World) :
    Calls Tryd.prog 56 #[.slice A n c] w fun e w' => e = .returned (.pointer (some ⟨w.heap.size, 0, none⟩)) ∧ Rf w' w.heap.size (.slice A n c) 0 0 ∧ Below w.heap.size w w' := by
  have HN := Lib.hid (Whole.new w 105 #[.slice A n c, .int .i64 0, .int .i64 0])
  go_enter Tryd.func56, Tryd.ntmps56
  go_wp2
  go_ret
  exact ⟨rfl, HN.out, (Below.refl _ _).alloc (Nat.le_refl _) _⟩

set_option maxHeartbeats 400000 in
theorem ref_raw_met (g : Nat) (v : Value) (p : Nat) (e0 n : Int) (w : World) (h : Rf w g v p e0) (h0 : e0 ≠ 0) :
    Calls Tryd.prog 59 #[.pointer (some ⟨g, 0, none⟩), .int .i64 n] w fun e w' => e = .returned (.string ByteArray.empty) ∧ w = w' := by
  have c2 := h.at_ 2
  simp at c2
  have b0 : (e0 != 0) = true := by simpa using h0
  go_enter Tryd.func59, Tryd.ntmps59
  go_wp2
  go_ret
  exact ⟨rfl, rfl⟩

set_option maxHeartbeats 400000 in
theorem ref_raw_neg (g : Nat) (v : Value) (p : Nat) (n : Int) (w : World) (h : Rf w g v p 0) (hn : n < 0) :
    Calls Tryd.prog 59 #[.pointer (some ⟨g, 0, none⟩), .int .i64 n] w fun e w' => e = .returned (.string ByteArray.empty) ∧ RfTo w g v p 2 w' := by
  have c2 := h.at_ 2
  simp at c2
  have f2 := h.free 2
  have HS := Lib.hid (h.stored 2 (.int .i64 2))
  go_enter Tryd.func59, Tryd.ntmps59
  go_wp2
  go_ret
  exact ⟨rfl, HS.out, grown_store _ _ _ _⟩

set_option maxHeartbeats 400000 in
theorem ref_raw_short (g : Nat) (A : Option Addr) (len cap p : Nat) (n : Int) (w : World) (h : Rf w g (.slice A len cap) p 0) (hp : p ≤ len) (hl : len ≤ 9000) (hn : (len : Int) - p < n) :
    Calls Tryd.prog 59 #[.pointer (some ⟨g, 0, none⟩), .int .i64 n] w fun e w' => e = .returned (.string ByteArray.empty) ∧ RfTo w g (.slice A len cap) p 10 w' := by
  have c0 := h.at_ 0
  have c1 := h.at_ 1
  have c2 := h.at_ 2
  simp at c0 c1 c2
  have f2 := h.free 2
  have HS := Lib.hid (h.stored 2 (.int .i64 10))
  have n0 : 0 ≤ n := by omega
  go_enter Tryd.func59, Tryd.ntmps59
  go_wp2
  go_quiet (fail)
  go_wp2
  go_ret
  exact ⟨rfl, HS.out, grown_store' _ _ _ _ _⟩

set_option maxHeartbeats 400000 in
theorem ref_raw_some (g : Nat) (A : Option Addr) (l : List UInt8) (cap p n : Nat) (w : World) (h : Rf w g (.slice A l.length cap) p 0) (hb : BytesAt w (.slice A l.length cap) l) (hp : p + n ≤ l.length) (hl : l.length ≤ 9000) :
    Calls Tryd.prog 59 #[.pointer (some ⟨g, 0, none⟩), .int .i64 n] w fun e w' => e = .returned (.string ⟨((l.drop p).take n).toArray⟩) ∧ RfTo w g (.slice A l.length cap) (p + n) 0 w' := by
  have c0 := h.at_ 0
  have c1 := h.at_ 1
  have c2 := h.at_ 2
  simp at c0 c1 c2
  have f1 := h.free 1
  have n0 : (0 : Int) ≤ n := by omega
  have n1 : (n : Int) ≤ (l.length : Int) - p := by omega
  obtain ⟨vs, hvs, hby⟩ := hb.part p n hp
  have hcv : ∀ k, (convert 42 9 vs).run Tryd.prog (w.drewN k) = .ok (.string ⟨((l.drop p).take n).toArray⟩) (w.drewN k) := fun k => conv_bytes (hby.drewN k)
  have HS := Lib.hid (h.stored 1 (.int .i64 ((p : Int) + n)))
  generalize (⟨((l.drop p).take n).toArray⟩ : ByteArray) = out at *
  clear hby hb
  go_enter Tryd.func59, Tryd.ntmps59
  go_wp2
  go_quiet (fail)
  go_wp2
  go_quiet (fail)
  go_wp2
  go_ret
  exact ⟨rfl, by rw [Rf, Int.natCast_add]; exact HS.out, grown_store' _ _ _ _ _⟩

set_option maxHeartbeats 400000 in
theorem ref_num_core (g : Nat) (v : Value) (p p' : Nat) (raw : ByteArray) (e1 : Int) (n : Nat) (w : World) (h : Rf w g v p 0) (h1 : 1 ≤ n) (h8 : n ≤ 8) (hr : raw.size ≤ 8)
    (C : Hid (Calls Tryd.prog 59 #[.pointer (some ⟨g, 0, none⟩), .int .i64 n] w fun e w' => e = .returned (.string raw) ∧ RfTo w g v p' e1 w')) :
    Calls Tryd.prog 58 #[.pointer (some ⟨g, 0, none⟩), .int .i64 n] w fun e w' => e = .returned (.int .u64 (ofBe raw.data.toList)) ∧ RfTo w g v p' e1 w' := by
  have c2 := h.at_ 2
  simp at c2
  have d1 : decide ((n : Int) < 1) = false := by simp; omega
  have d8 : decide ((8 : Int) < (n : Int)) = false := by simp; omega
  go_enter Tryd.func58, Tryd.ntmps58
  go_wp2_with fail
  refine C.out.mono ?_
  rintro e w1 ⟨rfl, hto⟩
  have HTO := Lib.hid hto
  clear hto
  go_wp2_with fail
  go_loop [6, 7] (fun t i => ∃ k : Nat, k ≤ raw.size ∧ i = .int .i64 k ∧ t = .int .u64 (ofBe (raw.data.toList.take k))) (fun _ i => raw.size - (intOf i).toNat)
  case atStart => exact ⟨0, Nat.zero_le _, rfl, rfl⟩
  case round =>
    obtain ⟨k, hk, rfl, rfl⟩ := hrel
    by_cases hlt : k < raw.size
    · have HB := Lib.hid (add_take raw k hlt hr)
      go_wp2
      go_round
      case rel => exact ⟨k + 1, by omega, by go_num, by rw [HB.out]⟩
      case measure => simp [intOf]; omega
    · obtain rfl : k = raw.size := by omega
      have HB : Hid (raw.data.toList.take raw.size = raw.data.toList) := List.take_of_length_le (by simp)
      go_wp2
      go_ret
      exact ⟨ret_int (by rw [HB.out]), HTO.out⟩

set_option maxHeartbeats 400000 in
theorem ref_num_not (g : Nat) (v : Value) (p : Nat) (n : Int) (w : World) (h : Rf w g v p 0) (hn : n < 1 ∨ 8 < n) :
    Calls Tryd.prog 58 #[.pointer (some ⟨g, 0, none⟩), .int .i64 n] w fun e w' => e = .returned (.int .u64 0) ∧ RfTo w g v p 2 w' := by
  have c2 := h.at_ 2
  simp at c2
  have f2 := h.free 2
  have HS := Lib.hid (h.stored 2 (.int .i64 2))
  by_cases hn1 : n < 1
  · have d1 : decide (n < 1) = true := by simp; omega
    go_enter Tryd.func58, Tryd.ntmps58
    go_wp2_with fail
    refine (ref_raw_met g v p 2 n _ HS.out (by decide)).mono ?_
    rintro e w1 ⟨rfl, rfl⟩
    go_wp2
    refine wp_loop_rounds 1 ?_
    rw [rounds_succ]
    go_wp2
    go_ret
    exact ⟨rfl, HS.out, grown_store _ _ _ _⟩
  · have d1 : decide (n < 1) = false := by simp; omega
    have d8 : decide (8 < n) = true := by simp; omega
    go_enter Tryd.func58, Tryd.ntmps58
    go_wp2_with fail
    refine (ref_raw_met g v p 2 n _ HS.out (by decide)).mono ?_
    rintro e w1 ⟨rfl, rfl⟩
    go_wp2
    refine wp_loop_rounds 1 ?_
    rw [rounds_succ]
    go_wp2
    go_ret
    exact ⟨rfl, HS.out, grown_store _ _ _ _⟩

set_option maxHeartbeats 400000 in
theorem ref_num_met (g : Nat) (v : Value) (p : Nat) (e0 n : Int) (w : World) (h : Rf w g v p e0) (h0 : e0 ≠ 0) :
    Calls Tryd.prog 58 #[.pointer (some ⟨g, 0, none⟩), .int .i64 n] w fun e w' => e = .returned (.int .u64 0) ∧ w = w' := by
  have c2 := h.at_ 2
  simp at c2
  have b0 : (e0 == 0) = false := by simpa using h0
  go_enter Tryd.func58, Tryd.ntmps58
  go_wp2_with fail
  refine (ref_raw_met g v p e0 n _ h h0).mono ?_
  rintro e w1 ⟨rfl, rfl⟩
  go_wp2
  refine wp_loop_rounds 1 ?_
  rw [rounds_succ]
  go_wp2
  go_ret
  exact ⟨rfl, rfl⟩

set_option maxHeartbeats 400000 in
theorem ref_end_met (g : Nat) (v : Value) (p : Nat) (e0 : Int) (w : World) (h : Rf w g v p e0) (h0 : e0 ≠ 0) :
    Calls Tryd.prog 60 #[.pointer (some ⟨g, 0, none⟩)] w fun e w' => e = .returned (.int .i64 e0) ∧ RfTo w g v p e0 w' := by
  have H := Lib.hid h
  have c2 := h.at_ 2
  simp at c2
  have b0 : (e0 == 0) = false := by simpa using h0
  clear h
  go_enter Tryd.func60, Tryd.ntmps60
  go_wp2
  go_quiet (fail)
  go_wp2
  go_ret
  exact ⟨rfl, H.out, grown_drewN (World.grownBy.refl _ _) _⟩

set_option maxHeartbeats 400000 in
theorem ref_end_rest (g : Nat) (A : Option Addr) (len cap p : Nat) (w : World) (h : Rf w g (.slice A len cap) p 0) (hp : p < len) :
    Calls Tryd.prog 60 #[.pointer (some ⟨g, 0, none⟩)] w fun e w' => e = .returned (.int .i64 12) ∧ RfTo w g (.slice A len cap) p 0 w' := by
  have H := Lib.hid h
  have c0 := h.at_ 0
  have c1 := h.at_ 1
  have c2 := h.at_ 2
  simp at c0 c1 c2
  clear h
  have d : decide ((p : Int) < (len : Int)) = true := by simp; omega
  go_enter Tryd.func60, Tryd.ntmps60
  go_wp2
  go_quiet (fail)
  go_wp2
  go_ret
  exact ⟨rfl, H.out, grown_drewN (World.grownBy.refl _ _) _⟩

set_option maxHeartbeats 400000 in
theorem ref_end_ok (g : Nat) (A : Option Addr) (len cap p : Nat) (w : World) (h : Rf w g (.slice A len cap) p 0) (hp : len ≤ p) :
    Calls Tryd.prog 60 #[.pointer (some ⟨g, 0, none⟩)] w fun e w' => e = .returned (.int .i64 0) ∧ RfTo w g (.slice A len cap) p 0 w' := by
  have H := Lib.hid h
  have c0 := h.at_ 0
  have c1 := h.at_ 1
  have c2 := h.at_ 2
  simp at c0 c1 c2
  clear h
  have d : decide ((p : Int) < (len : Int)) = false := by simp; omega
  go_enter Tryd.func60, Tryd.ntmps60
  go_wp2
  go_quiet (fail)
  go_wp2
  go_ret
  exact ⟨rfl, H.out, grown_drewN (World.grownBy.refl _ _) _⟩

set_option maxHeartbeats 400000 in
theorem ref_text_met (g : Nat) (v : Value) (p : Nat) (e0 most : Int) (w : World) (h : Rf w g v p e0) (h0 : e0 ≠ 0) :
    Calls Tryd.prog 57 #[.pointer (some ⟨g, 0, none⟩), .int .i64 most] w fun e w' => e = .returned (.string ByteArray.empty) ∧ w = w' := by
  have c2 := h.at_ 2
  simp at c2
  have b0 : (e0 == 0) = false := by simpa using h0
  go_enter Tryd.func57, Tryd.ntmps57
  go_wp2_with fail
  refine (ref_num_met g v p e0 2 w h h0).mono ?_
  rintro e w1 ⟨rfl, rfl⟩
  go_wp2_with fail
  refine (ref_raw_met g v p e0 0 w h h0).mono ?_
  rintro e w1 ⟨rfl, rfl⟩
  go_wp2
  go_ret
  exact ⟨rfl, rfl⟩

/-- Text, by what its Num of two does: an error, a number above most, and else Raw. -/
theorem ref_text_err (g : Nat) (v : Value) (p' : Nat) (e1 most : Int) (w : World) (h0 : e1 ≠ 0)
    (C : Hid (Calls Tryd.prog 58 #[.pointer (some ⟨g, 0, none⟩), .int .i64 (2 : Nat)] w fun e w' => e = .returned (.int .u64 0) ∧ RfTo w g v p' e1 w')) :
    Calls Tryd.prog 57 #[.pointer (some ⟨g, 0, none⟩), .int .i64 most] w fun e w' => e = .returned (.string ByteArray.empty) ∧ RfTo w g v p' e1 w' := by
  have b0 : (e1 == 0) = false := by simpa using h0
  go_enter Tryd.func57, Tryd.ntmps57
  go_wp2_with fail
  refine C.out.mono ?_
  rintro e w1 ⟨rfl, hto⟩
  have HTO := Lib.hid hto
  have c2 := hto.1.at_ 2
  simp at c2
  clear hto
  go_wp2_with fail
  refine (ref_raw_met g v p' e1 0 w1 HTO.out.1 h0).mono ?_
  rintro e w1 ⟨rfl, rfl⟩
  go_wp2
  go_ret
  exact ⟨rfl, HTO.out⟩

theorem ref_text_big (g : Nat) (v : Value) (p' k : Nat) (most : Int) (w : World) (hk : k ≤ 65535) (hm : most < k)
    (C : Hid (Calls Tryd.prog 58 #[.pointer (some ⟨g, 0, none⟩), .int .i64 (2 : Nat)] w fun e w' => e = .returned (.int .u64 k) ∧ RfTo w g v p' 0 w')) :
    Calls Tryd.prog 57 #[.pointer (some ⟨g, 0, none⟩), .int .i64 most] w fun e w' => e = .returned (.string ByteArray.empty) ∧ RfTo w g v p' 3 w' := by
  have d : decide (most < (k : Int)) = true := by simp; omega
  go_enter Tryd.func57, Tryd.ntmps57
  go_wp2_with fail
  refine C.out.mono ?_
  rintro e w1 ⟨rfl, hto⟩
  have HTO := Lib.hid hto
  have c2 := hto.1.at_ 2
  simp at c2
  have f2 := hto.1.free 2
  have HS := Lib.hid (hto.1.stored 2 (.int .i64 3))
  clear hto
  go_wp2_with fail
  refine (ref_raw_met g v p' 3 _ _ HS.out (by decide)).mono ?_
  rintro e w1 ⟨rfl, rfl⟩
  go_wp2
  go_ret
  exact ⟨rfl, HS.out, grown_trans' HTO.out.2 (grown_store _ _ _ _)⟩

theorem ref_text_ok (g : Nat) (v : Value) (p1 p2 k : Nat) (e2 most : Int) (out : ByteArray) (w : World) (hk : k ≤ 65535) (hm : k ≤ most)
    (C : Hid (Calls Tryd.prog 58 #[.pointer (some ⟨g, 0, none⟩), .int .i64 (2 : Nat)] w fun e w' => e = .returned (.int .u64 k) ∧ RfTo w g v p1 0 w'))
    (D : Hid (∀ w1, Rf w1 g v p1 0 → w.grownBy w1 (some g) → Calls Tryd.prog 59 #[.pointer (some ⟨g, 0, none⟩), .int .i64 k] w1 fun e w' => e = .returned (.string out) ∧ RfTo w1 g v p2 e2 w')) :
    Calls Tryd.prog 57 #[.pointer (some ⟨g, 0, none⟩), .int .i64 most] w fun e w' => e = .returned (.string out) ∧ RfTo w g v p2 e2 w' := by
  have d : decide (most < (k : Int)) = false := by simp; omega
  go_enter Tryd.func57, Tryd.ntmps57
  go_wp2_with fail
  refine C.out.mono ?_
  rintro e w1 ⟨rfl, hto⟩
  have HTO := Lib.hid hto
  have c2 := hto.1.at_ 2
  simp at c2
  clear hto
  go_wp2_with fail
  refine (D.out w1 HTO.out.1 HTO.out.2).mono ?_
  rintro e w2 ⟨rfl, hto2⟩
  have HT2 := Lib.hid hto2
  clear hto2
  go_wp2
  go_ret
  exact ⟨rfl, HTO.out.trans HT2.out⟩
end Go.Proofs.YtpcdbpijgmninaaDoor
