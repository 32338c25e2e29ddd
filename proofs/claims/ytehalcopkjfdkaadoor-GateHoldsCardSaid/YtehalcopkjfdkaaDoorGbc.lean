/- What package equal's calls answer: contracts. gather and Bytes change no memory that was there; Xor answers new bytes. What package mac's Check answers. label.span as a structure: its cells, opened, in a block. (Written by tools/mkrec.py.) Package label, as landed: span.has, Key. -/
import Derived.Test.YtehalcopkjfdkaaDoorGn
import Derived.RegionTactic
import Derived.ChangeAlike
import Derived.Test.YtehalcopkjfdkaaDoorGd
import Derived.Test.YtehalcopkjfdkaaDoorGe
import Derived.Test.YtehalcopkjfdkaaDoorGb
import Derived.Deep.DeepCutAuto
import Derived.Deep.LoopGhost
namespace Go.Proofs.YtehalcopkjfdkaaDoor
set_option maxRecDepth 100000
open Go.RowKit

set_option maxHeartbeats 400000 in
theorem gather_any (v : Value) (l : List UInt8) (w : World) (h : BytesAt w v l) (hl : l.length ≤ 1000000) :
    Calls Tryd.prog 51 #[v] w fun e w' => e = .returned (.int .u8 ((orAll l).toNat : Int)) ∧ w = w' := by
  have hs := h
  obtain ⟨A, cap, rfl, hcap, -⟩ := hs
  have H := Lib.hid h
  clear h
  go_enter Tryd.func51, Tryd.ntmps51
  go_wp2_with fail
  go_loop [3, 8] (fun u i => ∃ k : Nat, k ≤ l.length ∧ i = .int .i64 k ∧ u = .int .u8 ((orAll (l.take k)).toNat : Int)) (fun _ i => l.length - (intOf i).toNat)
  case atStart => exact ⟨0, Nat.zero_le _, rfl, by simp [orAll]⟩
  case round =>
    obtain ⟨k, hk, rfl, rfl⟩ := hrel
    by_cases hlt : k < l.length
    · obtain ⟨b, off, rfl, hb, hcell⟩ := H.out.spots (by rintro rfl; simp at hlt)
      have hx : l[k]? = some l[k] := List.getElem?_eq_getElem hlt
      have c0 := hcell k _ hx
      have HB : Hid (bits .or .u8 ((orAll (l.take k)).toNat : Int) (l[k].toNat : Int) = ((orAll (l.take (k + 1))).toNat : Int)) := by rw [take_at hx, orAll_snoc]; exact or_cell _ _
      generalize l[k] = c at *
      generalize orAll (l.take k) = o at *
      clear hcell hx
      go_wp2
      go_round
      case rel => exact ⟨k + 1, by omega, by go_num, by rw [HB.out]⟩
      case measure => simp [intOf]; omega
    · obtain rfl : k = l.length := by omega
      go_wp2
      go_ret
      exact ⟨by simp, rfl⟩

theorem zero_test (l : List UInt8) : (((orAll l).toNat : Int) == 0) = decide (∀ c ∈ l, c = 0) := by
  rw [Bool.eq_iff_iff]
  simp only [beq_iff_eq, decide_eq_true_eq, ← orAll_zero]
  rw [← UInt8.toNat_inj]
  simp

set_option maxHeartbeats 1000000 in
theorem xor_any (v0 v1 : Value) (l0 l1 : List UInt8) (w : World) (h0 : BytesAt w v0 l0) (h1 : BytesAt w v1 l1) (hl0 : l0.length ≤ 1000000) (hl1 : l1.length ≤ 1000000) :
    Calls Tryd.prog 52 #[v0, v1] w fun e w' => ∃ v', e = .returned v' ∧ BytesAt w' v' (xorL l0 l1) ∧ Below w.heap.size w w' := by
  obtain ⟨i0, hi0, hz0, hz1, hz2⟩ := info_parts byte_info
  have hs0 := h0
  have hs1 := h1
  obtain ⟨A0, cap0, rfl, hcap0, -⟩ := hs0
  obtain ⟨A1, cap1, rfl, hcap1, -⟩ := hs1
  have H0 := Lib.hid h0
  have H1 := Lib.hid h1
  clear h0 h1
  obtain ⟨n, hn⟩ : ∃ n, n = min l0.length l1.length := ⟨_, rfl⟩
  have HF : Hid ((xorL l0 l1).length = n) := by rw [xorL_length, hn]; exact rfl
  have hn0 : n ≤ l0.length := by omega
  have hn1 : n ≤ l1.length := by omega
  have HN := Lib.hid hn
  clear hn
  rcases Nat.lt_or_ge l1.length l0.length with hlt | hge
  all_goals
    go_enter Tryd.func52, Tryd.ntmps52
    go_wp2_with (at_make; refine wpList_make_full _ rfl (.tmp 11) (.tmp 11) 59 rfl w.heap.size 5 i0 (.int .u8 0) 1 Tryd.underlying59 hi0 hz0 hz1 .i64 .i64 _ _ n rfl rfl ?c1 ?c2 ?c3 ?c4 ?c5 ?_)
    case c1 => have := HN.out; omega
    case c2 => have := HN.out; omega
    case c3 => rw [hz2]; omega
    case c4 => simp only [maxLen]; omega
    case c5 => exact Nat.le_refl _
    intro w1 ho1 hg1
    rw [made_bytes, ← doneTo_zero (xorL l0 l1) n] at ho1
    have hb1 : Below w.heap.size w w1 := (Below.refl _ _).grown hg1 (Nat.le_refl _) (fun k hk => by cases hk)
    have HO1 := Lib.hid ho1
    have HB1 := Lib.hid hb1
    clear ho1 hg1 hb1
    go_wp2_with fail
    go_loopw [15] (fun i wr => ∃ k : Nat, k ≤ n ∧ i = .int .i64 k ∧ wr.ownsRow w.heap.size 5 1 (.slice (some ⟨w.heap.size, 0, none⟩) n n) n (bv (doneTo (xorL l0 l1) n k)) ∧ Below w.heap.size w wr) (fun i _ => n - (intOf i).toNat)
    case atStart => exact ⟨0, Nat.zero_le _, rfl, HO1.out, HB1.out⟩
    case round =>
      obtain ⟨k, hk, rfl, ho, hbel⟩ := hrel
      have HO := Lib.hid ho
      have HBe := Lib.hid hbel
      have zr := hbel.size
      clear ho hbel
      by_cases hkn : k < n
      · have hk0 : k < l0.length := by omega
        have hk1 : k < l1.length := by omega
        obtain ⟨b0, off0, rfl, hb0, hcell0⟩ := H0.out.spots (by rintro rfl; simp at hk0)
        obtain ⟨b1, off1, rfl, hb1, hcell1⟩ := H1.out.spots (by rintro rfl; simp at hk1)
        have hx0 : l0[k]? = some l0[k] := List.getElem?_eq_getElem hk0
        have hx1 : l1[k]? = some l1[k] := List.getElem?_eq_getElem hk1
        have c0 : wr.cell? ⟨b0, off0 + k, none⟩ = some (.int .u8 (l0[k].toNat : Int)) := (HBe.out.cell (p := ⟨b0, off0 + k, none⟩) hb0).trans (hcell0 k _ hx0)
        have c1 : wr.cell? ⟨b1, off1 + k, none⟩ = some (.int .u8 (l1[k].toNat : Int)) := (HBe.out.cell (p := ⟨b1, off1 + k, none⟩) hb1).trans (hcell1 k _ hx1)
        have HS := Lib.hid (doneTo_set (xorL l0 l1) n k _ HF.out (xorL_at l0 l1 k _ _ hx0 hx1))
        have HX := Lib.hid (xor_cell l0[k] l1[k])
        have c2 := HO.out.cellAt k (by omega)
        have f2 := HO.out.frozenAt k
        have hlen : k < (bv (doneTo (xorL l0 l1) n k)).length := by rw [bv_length, doneTo_length _ _ _ HF.out hk]; exact hkn
        rw [List.getElem?_eq_getElem hlen] at c2
        generalize (bv (doneTo (xorL l0 l1) n k))[k] = old at c2
        generalize l0[k] = x0 at *
        generalize l1[k] = x1 at *
        clear hx0 hx1 hcell0 hcell1 hlen
        go_wp2_with fail
        go_region
        all_goals
          go_wp2
          refine ⟨⟨k + 1, by omega, by go_num, ?_, (HBe.out.setCell (Nat.le_refl _) _).drew⟩, by simp [intOf]; omega⟩
          have q := HO.out.stored k (.int .u8 ((x0 ^^^ x1).toNat : Int))
          rw [HS.out] at q
          rw [HX.out]
          exact q.1
      · obtain rfl : k = n := by omega
        have ho := HO.out
        rw [doneTo_all _ _ HF.out] at ho
        have hy : BytesAt wr (.slice (some ⟨w.heap.size, 0, none⟩) k k) (xorL l0 l1) := by
          apply BytesAt.of_own (base := w.heap.size)
          rw [HF.out]
          exact ho
        have HY := Lib.hid hy
        clear ho hy
        go_wp2
        go_ret
        exact ⟨_, rfl, HY.out, HBe.out⟩

theorem bytes_test (l0 l1 : List UInt8) (h : l0.length = l1.length) : (((orAll (xorL l0 l1)).toNat : Int) == 0) = decide (l0 = l1) := by
  rw [zero_test, Bool.eq_iff_iff]
  simp only [decide_eq_true_eq]
  exact xorL_zero l0 l1 h

set_option maxHeartbeats 400000 in
theorem bytes_any (v0 v1 : Value) (l0 l1 : List UInt8) (w : World) (h0 : BytesAt w v0 l0) (h1 : BytesAt w v1 l1) (hl0 : l0.length ≤ 1000000) (hl1 : l1.length ≤ 1000000) :
    Calls Tryd.prog 39 #[v0, v1] w fun e w' => e = .returned (.bool (decide (l0 = l1))) ∧ Below w.heap.size w w' := by
  have C := Lib.hid (xor_any v0 v1 l0 l1 w h0 h1 hl0 hl1)
  obtain ⟨A0, cap0, rfl, hcap0, -⟩ := h0
  obtain ⟨A1, cap1, rfl, hcap1, -⟩ := h1
  by_cases hlen : l0.length = l1.length
  · have hb : ((l0.length : Int) == (l1.length : Int)) = true := by simp; omega
    rw [← bytes_test l0 l1 hlen]
    have HL : Hid ((xorL l0 l1).length ≤ 1000000) := by rw [xorL_length]; exact Lib.hid (by omega)
    have G : Hid (∀ v2 w2, BytesAt w2 v2 (xorL l0 l1) → Calls Tryd.prog 51 #[v2] w2 fun e w' => e = .returned (.int .u8 ((orAll (xorL l0 l1)).toNat : Int)) ∧ w2 = w') := fun v2 w2 hy => gather_any v2 _ w2 hy HL.out
    generalize ((orAll (xorL l0 l1)).toNat : Int) = o at *
    clear hlen
    go_enter Tryd.func39, Tryd.ntmps39
    go_wp2_with fail
    refine C.out.mono ?_
    rintro e w1 ⟨v1, rfl, hy, hbe⟩
    have HY := Lib.hid hy
    clear hy
    go_wp2_with fail
    refine (G.out v1 w1 HY.out).mono ?_
    rintro e w2 ⟨rfl, rfl⟩
    go_wp2
    go_ret
    exact ⟨rfl, hbe⟩
  · have hb : ((l0.length : Int) == (l1.length : Int)) = false := by simp; omega
    have hd : decide (l0 = l1) = false := by
      simp only [decide_eq_false_iff_not]
      rintro rfl
      exact hlen rfl
    rw [hd]
    clear hlen hd
    go_enter Tryd.func39, Tryd.ntmps39
    go_wp2
    go_ret
    exact ⟨rfl, Below.refl _ _⟩

end Go.Proofs.YtehalcopkjfdkaaDoor

namespace Go.Proofs.YtehalcopkjfdkaaDoor
set_option maxRecDepth 100000
open Go.RowKit

set_option maxHeartbeats 1000000 in
theorem check_any (v0 v1 v2 : Value) (k m t : List UInt8) (w : World) (h0 : BytesAt w v0 k) (h1 : BytesAt w v1 m) (h2 : BytesAt w v2 t) (hk : k.length ≤ 5000) (hm : m.length ≤ 4900) (ht : t.length ≤ 1000000) (T : Tab w) :
    Calls Tryd.prog 29 #[v0, v1, v2] w fun e w' => e = .returned (.bool (decide (macL k m = t))) ∧ Below w.heap.size w w' := by
  have T0 := Lib.hid T
  have H0 := Lib.hid h0
  have H1 := Lib.hid h1
  have H2 := Lib.hid h2
  have ML := Lib.hid (macL_length k m)
  obtain ⟨A0, cap0, rfl, -, -⟩ := h0
  obtain ⟨A1, cap1, rfl, -, -⟩ := h1
  obtain ⟨A2, cap2, rfl, -, -⟩ := h2
  clear T
  go_enter Tryd.func29, Tryd.ntmps29
  go_wp2_with fail
  refine (mac_any _ _ k m w H0.out H1.out hk hm T0.out).mono ?_
  rintro e w1 ⟨v1, rfl, y1, b1⟩
  have B1 := Lib.hid b1
  have Y1 := Lib.hid y1
  clear y1 b1
  generalize hM : macL k m = M at *
  have HM := Lib.hid hM
  clear hM
  go_wp2_with fail
  refine (bytes_any v1 _ M t w1 Y1.out (H2.out.below B1.out) (by have := ML.out; omega) ht).mono ?_
  rintro e w2 ⟨rfl, b2⟩
  have B2 := Lib.hid (B1.out.trans (b2.mono B1.out.size))
  clear b2
  go_wp2
  go_ret
  refine ⟨?_, B2.out⟩
  rw [HM.out]
  rfl
end Go.Proofs.YtehalcopkjfdkaaDoor

namespace Go.Proofs.YtehalcopkjfdkaaDoor
set_option maxRecDepth 100000
open Go.RowKit Go.ChangeShapes Go.WideShapes Go.ChangeAt

structure Span where
  lo : Nat
  hi : Nat
deriving DecidableEq
namespace Span
def enc (x : Span) : List Value := [.int .u8 (x.lo : Int), .int .u8 (x.hi : Int)]
def ks : List CK := [.int .u8, .int .u8]
abbrev val (x : Span) : Value := .agg x.enc.toArray
theorem len (x : Span) : x.enc.length = 2 := rfl
theorem fits (x : Span) : Fits ks x.enc := ⟨⟨_, rfl⟩, ⟨_, rfl⟩, trivial⟩
theorem one (x : Span) : x.enc.toArray.all (·.oneCell') = true := by simp [enc, Value.oneCell']
theorem isRec : Rec Tryd.prog 76 ks := ⟨by kernel_rfl, by kernel_rfl, by kernel_rfl⟩
theorem size (x : Span) : (Tryd.prog.info? 76).map (·.size) = some x.enc.toArray.size := by
  have h : (Tryd.prog.info? 76).map (·.size) = some 2 := by kernel_rfl
  exact h
def zero : Span := ⟨0, 0⟩
theorem zero_is : (Tryd.prog.info? 76).map (·.zero) = some (some (.agg zero.enc.toArray)) := by kernel_rfl
/-- Its numbers are of their types. -/
structure Ok (x : Span) : Prop where
  lo_ok : x.lo < 256
  hi_ok : x.hi < 256
theorem of_fits {cs : List Value} (h : FitsW ks cs) : ∃ x : Span, cs = x.enc ∧ x.Ok := by
  obtain ⟨_, r0, rfl, ⟨z0, rfl, w0⟩, q0⟩ := FitsW.uncons h
  obtain ⟨_, r1, rfl, ⟨z1, rfl, w1⟩, q1⟩ := FitsW.uncons q0
  have hn := FitsW.nil q1
  subst hn
  have b0 := bounds_u8 w0
  obtain ⟨n0, rfl⟩ := Int.eq_ofNat_of_zero_le b0.1
  have b1 := bounds_u8 w1
  obtain ⟨n1, rfl⟩ := Int.eq_ofNat_of_zero_le b1.1
  exact ⟨⟨n0, n1⟩, rfl, ⟨(by show (n0 : Nat) < 256; have := b0.2; omega), (by show (n1 : Nat) < 256; have := b1.2; omega)⟩⟩
theorem opened {H : Type} {en : TypeId × Value → H} {W : World} {b base : Nat} {sp : Nat → Bool} {hd : Bool} {v : Value} {d : DataW H} {p : List MemPlace} (hv : Value.okWide Tryd.prog W .any base 76 v) (h : DataW.Trod en Tryd.prog W b sp hd 76 v d p) : ∃ x : Span, v = x.val ∧ x.Ok := by
  obtain ⟨cs, rfl, hf⟩ := open_rec isRec hv h
  obtain ⟨x, rfl, hx⟩ := of_fits hf
  exact ⟨x, rfl, hx⟩
theorem same (x y : Span) : eqCells x.enc y.enc = decide (x = y) := by
  rw [Bool.eq_iff_iff, decide_eq_true_eq]
  constructor
  · intro h
    simp only [enc, eqCells, cellEq, Bool.and_eq_true, beq_iff_eq, Bool.and_true] at h
    obtain ⟨h0, h1⟩ := h
    obtain ⟨a1, a2⟩ := x
    obtain ⟨b3, b4⟩ := y
    simp only at h0 h1
    have h0 := Int.ofNat.inj h0
    have h1 := Int.ofNat.inj h1
    subst h0 h1
    rfl
  · rintro rfl
    exact eqCells_refl x.fits
theorem eq_run (x y : Span) (w : World) : (binOp .eql 76 x.val y.val).run Tryd.prog w = .ok (.bool (decide (x = y))) w := by
  rw [← same]
  exact run_eq_rec isRec _ _ x.fits y.fits w
/-- In a block. -/
abbrev At (w : World) (g : Nat) (x : Span) : Prop := Whole w g 76 x.enc.toArray
theorem At.cells {w : World} {g : Nat} {x : Span} (h : At w g x) : w.cell? ⟨g, 0, none⟩ = some (.int .u8 (x.lo : Int)) ∧ w.cell? ⟨g, 1, none⟩ = some (.int .u8 (x.hi : Int)) :=
  ⟨h.at_ 0, h.at_ 1⟩
theorem At.at_lo {w : World} {g : Nat} {x : Span} (h : At w g x) : w.cell? ⟨g, 0, none⟩ = some (.int .u8 (x.lo : Int)) := h.at_ 0
theorem At.at_hi {w : World} {g : Nat} {x : Span} (h : At w g x) : w.cell? ⟨g, 1, none⟩ = some (.int .u8 (x.hi : Int)) := h.at_ 1
theorem At.set_lo {w : World} {g : Nat} {x : Span} (h : At w g x) (v : Nat) : At (w.setCell ⟨g, 0, none⟩ (.int .u8 (v : Int))) g { x with lo := v } := h.stored 0 _
theorem At.set_hi {w : World} {g : Nat} {x : Span} (h : At w g x) (v : Nat) : At (w.setCell ⟨g, 1, none⟩ (.int .u8 (v : Int))) g { x with hi := v } := h.stored 1 _
end Span
end Go.Proofs.YtehalcopkjfdkaaDoor

namespace Go.Proofs.YtehalcopkjfdkaaDoor
set_option maxRecDepth 100000
open Go.RowKit

/-- Does a byte lie in a span? -/
def Span.hasB (s : Span) (c : UInt8) : Bool := decide (s.lo ≤ c.toNat) && decide (c.toNat ≤ s.hi)

set_option maxHeartbeats 1000000 in
theorem has_any (s : Span) (c : UInt8) (w : World) :
    Calls Tryd.prog 49 #[s.val, .int .u8 (c.toNat : Int)] w fun e w' => e = .returned (.bool (s.hasB c)) ∧ Below w.heap.size w w' := by
  obtain ⟨b1, h1⟩ : ∃ b, b = decide (s.lo ≤ c.toNat) := ⟨_, rfl⟩
  obtain ⟨b2, h2⟩ : ∃ b, b = decide (c.toNat ≤ s.hi) := ⟨_, rfl⟩
  have d1 : decide ((s.lo : Int) ≤ (c.toNat : Int)) = b1 := by rw [h1]; congr 1; apply propext; omega
  have d2 : decide ((c.toNat : Int) ≤ (s.hi : Int)) = b2 := by rw [h2]; congr 1; apply propext; omega
  have HR : Hid (s.hasB c = (b1 && b2)) := Lib.hid (by rw [Span.hasB, h1, h2])
  have d1n := h1.symm
  have d2n := h2.symm
  clear h1 h2
  go_enter Tryd.func49, Tryd.ntmps49
  go_wp2_with (refine wpList_box_row rfl 76 _ rfl s.enc.toArray (by with_unfolding_all exact rfl) ?_)
  intro w1 b1 x1 z1
  obtain ⟨gS, hgS⟩ : ∃ g, g = w.heap.size := ⟨_, rfl⟩
  have M_S := Lib.hid (show w.heap.size ≤ gS from by rw [hgS]; exact Nat.le_refl _)
  have B1 := Lib.hid b1
  rw [← hgS] at x1 ⊢
  have S1 : Hid (Span.At w1 gS s) := Lib.hid x1
  clear b1 x1 z1 hgS 
  have c1 := Span.At.at_lo S1.out
  have c2 := Span.At.at_hi S1.out
  cases b1
  all_goals
    go_wp2
    go_ret
    exact ⟨by rw [HR.out]; rfl, B1.out⟩

def seenS : Span := ⟨33, 126⟩
theorem seen_is (c : UInt8) : seenS.hasB c = keyC c := by
  rw [Span.hasB, keyC]
  congr 1
  all_goals
    congr 1
    apply propext
    simp only [seenS]
    omega

end Go.Proofs.YtehalcopkjfdkaaDoor
