/- What the document's Bytes of layer 10 answers. -/
import Derived.Test.YtgldelgeaajgpaaDoorLbH
import Derived.Test.YtgldelgeaajgpaaDoorCpy
import Derived.Test.YtgldelgeaajgpaaDoorArr
import Derived.Test.YtgldelgeaajgpaaDoorEqM
namespace Go.Proofs.YtgldelgeaajgpaaDoor
open Go.RowKit

theorem pairsC_at (b : List UInt8) (k : Nat) (c : UInt8) (h : b[k]? = some c) : (pairsC b)[2 * k]? = some (hexC (c.toNat / 16)) ∧ (pairsC b)[2 * k + 1]? = some (hexC (c.toNat % 16)) := by
  induction b generalizing k with
  | nil => simp at h
  | cons x b ih =>
    have e : pairsC (x :: b) = hexC (x.toNat / 16) :: hexC (x.toNat % 16) :: pairsC b := rfl
    rw [e]
    cases k with
    | zero =>
      simp at h
      subst h
      exact ⟨rfl, rfl⟩
    | succ k =>
      have h2 : b[k]? = some c := by simpa using h
      have := ih k h2
      rw [show 2 * (k + 1) = 2 * k + 1 + 1 by omega]
      exact this

set_option maxRecDepth 100000 in
set_option maxHeartbeats 2000000 in
theorem refLbBytes_any (A : Option Addr) (n cap : Nat) (b : List UInt8) (hn : n ≤ 100000) (w : World) (h : BytesAt w (.slice A n cap) b) :
    Calls Tryd.prog 20 #[.slice A n cap] w fun e w' => e = .returned (.string ⟨(bytesL b).toArray⟩) ∧ Below w.heap.size w w' := by
  have HZ := Lib.hid h.size
  have H := Lib.hid h
  have HN := Lib.hid hn
  by_cases h0 : n = 0
  · have hb : b = [] := List.eq_nil_of_length_eq_zero (by rw [← HZ.out.1, h0])
    have e : bytesL b = [45] := by rw [bytesL, if_pos hb]
    rw [e]
    have d : ((n : Int) == 0) = true := by simp; omega
    clear h hb e h0
    go_enter Tryd.func20, Tryd.ntmps20
    go_wp2
    go_ret
    exact ⟨rfl, Below.refl _ _⟩
  · have hb : b ≠ [] := fun e => h0 (by rw [HZ.out.1, e]; rfl)
    have e : bytesL b = pairsC b := by rw [bytesL, if_neg hb]
    rw [e]
    have d : ((n : Int) == 0) = false := by simp; omega
    obtain ⟨b1, o1, rfl, hb1, hc1⟩ := H.out.spots hb
    have HB1 := Lib.hid (And.intro hb1 hc1)
    have PL := pairsC_length b
    obtain ⟨m, hm⟩ : ∃ m, m = 2 * n := ⟨_, rfl⟩
    have r0 : IntKind.i64.wrap (2 * (n : Int)) = (m : Int) := by rw [IntWalk.i64_in _ (by omega)]; omega
    have PM : Hid ((pairsC b).length = m) := Lib.hid (by have := HZ.out.1; omega)
    have PA := fun k c hc => Lib.hid (pairsC_at b k c hc)
    obtain ⟨R, hR⟩ : ∃ R, R = pairsC b := ⟨_, rfl⟩
    simp only [← hR] at PM PA ⊢
    have HM := Lib.hid hm
    clear h hb e h0 hb1 hc1 PL hm hR hn
    go_enter Tryd.func20, Tryd.ntmps20
    go_wp2_with (at_make; refine wpList_make_block rfl _ _ rfl m rfl rfl (by have := HM.out; have := HN.out; omega) ?_)
    intro w1 x1 b1' z1
    have X1 : Hid (Whole w1 w.heap.size 5 (bv (doneTo R m (2 * 0))).toArray) := Lib.hid (by
      have e : doneTo R m (2 * 0) = List.replicate m 0 := by simp [doneTo]
      rw [e]
      exact x1)
    have B1 := Lib.hid b1'
    clear x1 b1' z1
    go_wp2_with fail
    go_loopw [4] (fun i wr => ∃ k : Nat, k ≤ n ∧ i = .int .i64 (k : Int) ∧ Whole wr w.heap.size 5 (bv (doneTo R m (2 * k))).toArray ∧ Below w.heap.size w wr) (fun i _ => n - (intOf i).toNat)
    case atStart => exact ⟨0, Nat.zero_le _, rfl, X1.out, B1.out⟩
    case round =>
      obtain ⟨k, hk, rfl, hx, hb⟩ := hrel
      have HX := Lib.hid hx
      have HB := Lib.hid hb
      clear hx hb X1 B1
      by_cases hlt : k < n
      · have dk : decide ((k : Int) < (n : Int)) = true := by simp; omega
        obtain ⟨c, hc⟩ : ∃ c, b[k]? = some c := ⟨_, List.getElem?_eq_getElem (by have := HZ.out.1; omega)⟩
        have c1 := (HB.out.cell (p := ⟨b1, o1 + k, none⟩) HB1.out.1).trans (HB1.out.2 k c hc)
        obtain ⟨p1, p2⟩ := (PA k c hc).out
        have hcl := c.toNat_lt
        obtain ⟨dh, hdh⟩ : ∃ d, d = c.toNat / 16 := ⟨_, rfl⟩
        obtain ⟨dl, hdl⟩ : ∃ d, d = c.toNat % 16 := ⟨_, rfl⟩
        rw [← hdh] at p1
        rw [← hdl] at p2
        have e1 : ∀ h, (⟨#[48, 49, 50, 51, 52, 53, 54, 55, 56, 57, 97, 98, 99, 100, 101, 102]⟩ : ByteArray)[dh]'h = hexC dh := fun h => hex_lit dh _ (by
          have h16 : dh < 16 := by omega
          rw [hexC, List.getD, List.getElem?_eq_getElem (show dh < hexD.length from h16)]
          rfl) h
        have e2 : ∀ h, (⟨#[48, 49, 50, 51, 52, 53, 54, 55, 56, 57, 97, 98, 99, 100, 101, 102]⟩ : ByteArray)[dl]'h = hexC dl := fun h => hex_lit dl _ (by
          have h16 : dl < 16 := by omega
          rw [hexC, List.getD, List.getElem?_eq_getElem (show dl < hexD.length from h16)]
          rfl) h
        obtain ⟨xh, hxh⟩ : ∃ x, x = hexC dh := ⟨_, rfl⟩
        obtain ⟨xl, hxl⟩ : ∃ x, x = hexC dl := ⟨_, rfl⟩
        rw [← hxh] at p1
        rw [← hxl] at p2
        simp only [← hxh] at e1
        simp only [← hxl] at e2
        have r1 : (c.toNat : Int) / 16 = (dh : Int) := by omega
        have r2 : (c.toNat : Int) % 16 = (dl : Int) := by omega
        have j1 : (dh : Int) < 16 := by omega
        have j2 : (dl : Int) < 16 := by omega
        obtain ⟨q, hq⟩ : ∃ q, q = 2 * k := ⟨_, rfl⟩
        obtain ⟨q1, hq1⟩ : ∃ q1, q1 = 2 * k + 1 := ⟨_, rfl⟩
        have r3 : IntKind.i64.wrap (2 * (k : Int)) = (q : Int) := by have := HN.out; rw [IntWalk.i64_in _ (by omega)]; omega
        have r4 : IntKind.i64.wrap ((q : Int) + 1) = (q1 : Int) := by have := HN.out; rw [IntWalk.i64_in _ (by omega)]; omega
        have r5 : IntKind.u8.wrap (dh : Int) = (dh : Int) := by rw [IntWalk.u8_in _ (by omega)]
        have j3 : (q : Int) < (m : Int) := by have := HM.out; omega
        have j4 : (q1 : Int) < (m : Int) := by have := HM.out; omega
        have jk : (k : Int) < (n : Int) := by omega
        have P1 : Hid (R[q]? = some xh) := Lib.hid (by rw [hq]; exact p1)
        have P2 : Hid (R[q1]? = some xl) := Lib.hid (by rw [hq1]; exact p2)
        have HQ := Lib.hid (And.intro hq hq1)
        rw [← hq] at HX
        have QM : Hid (q < m ∧ q1 < m) := Lib.hid ⟨by omega, by omega⟩
        have tk : IntKind.i64.wrap ((k : Int) + 1) = (k : Int) + 1 := by have := HN.out; rw [IntWalk.i64_in _ (by omega)]
        have C1 : Hid (∀ w', Below w.heap.size w w' → w'.cell? ⟨b1, o1 + k, none⟩ = some (.int .u8 (c.toNat : Int))) := Lib.hid fun w' hw => (hw.cell (p := ⟨b1, o1 + k, none⟩) HB1.out.1).trans (HB1.out.2 k c hc)
        clear hc hdh hdl hxh hxl hq hq1 p1 p2 hcl
        go_wp2_with (with_reducible refine wpList_put_b rfl _ _ rfl w.heap.size q ?hx xh ?hy _ (doneTo R m q) HX.out ?hi ?_)
        case hx => exact rfl
        case hy => exact rfl
        case hi => rw [doneTo_length R m q PM.out (by have := QM.out; omega)]; exact QM.out.1
        intro w2 g2 x2 z2
        rw [doneTo_put R m q xh PM.out P1.out] at x2
        have X2 : Hid (Whole w2 w.heap.size 5 (bv (doneTo R m q1)).toArray) := Lib.hid (by
          have e : q1 = q + 1 := by have := HQ.out; omega
          rw [e]
          exact x2)
        have B2 := Lib.hid (HB.out.grown g2 HB.out.size (fun k hk => by injection hk; omega))
        clear x2 g2 z2 c1 HB HX
        have c1 := C1.out w2 B2.out
        go_wp2_with (with_reducible refine wpList_put_b rfl _ _ rfl w.heap.size q1 ?hx xl ?hy _ (doneTo R m q1) X2.out ?hi ?_)
        case hx => exact rfl
        case hy => exact rfl
        case hi => rw [doneTo_length R m q1 PM.out (by have := QM.out; omega)]; exact QM.out.2
        intro w3 g3 x3 z3
        rw [doneTo_put R m q1 xl PM.out P2.out] at x3
        have X3 : Hid (Whole w3 w.heap.size 5 (bv (doneTo R m (2 * (k + 1)))).toArray) := Lib.hid (by
          have e : 2 * (k + 1) = q1 + 1 := by have := HQ.out; omega
          rw [e]
          exact x3)
        have B3 := Lib.hid (B2.out.grown g3 B2.out.size (fun k hk => by injection hk; omega))
        clear x3 g3 z3 c1 B2 X2 e1 e2 r1 r2
        go_wp2_with fail
        exact ⟨⟨k + 1, by omega, by go_num, X3.out, B3.out⟩, by simp [intOf]; omega⟩
      · obtain rfl : k = n := by omega
        have e : doneTo R m (2 * k) = R := by rw [← HM.out]; exact doneTo_all R m PM.out
        rw [e] at HX
        have Y : Hid (BytesAt wr (.slice (some ⟨w.heap.size, 0, none⟩) m m) R) := Lib.hid (block_bytes HX.out PM.out.symm (Nat.le_refl _))
        have rc := conv_bytes Y.out
        clear e HX
        go_wp2
        go_ret
        exact ⟨rfl, HB.out⟩
end Go.Proofs.YtgldelgeaajgpaaDoor
