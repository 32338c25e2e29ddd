/- What the document's digits and carried of layer 7 answer. -/
import Derived.Test.YtbdcligpbogkjaaPoC
namespace Go.Proofs.Ytbdcligpbogkjaa
open Go.RowKit

/-- So many of the bytes as digits, 17 in all. -/
def digTo (l : List UInt8) (k : Nat) : List Nat := (l.take k).map (·.toNat) ++ List.replicate (17 - k) 0
def digL (l : List UInt8) : List Nat := digTo l l.length
theorem digTo_set (l : List UInt8) (k : Nat) (c : UInt8) (hk : l[k]? = some c) (h17 : k < 17) : (digTo l k).set k c.toNat = digTo l (k + 1) := by
  have hlt : k < l.length := (List.getElem?_eq_some_iff.1 hk).1
  have e : 17 - k = (17 - (k + 1)) + 1 := by omega
  have e2 : ((l.take k).map (·.toNat)).length = k := by simp; omega
  rw [digTo, digTo, take_at hk, e, List.replicate_succ, List.set_append_right _ _ (by omega), e2, Nat.sub_self]
  simp
theorem digL_at (l : List UInt8) (i : Nat) : (digL l).getD i 0 = (l.map (·.toNat)).getD i 0 := by
  simp only [digL, digTo, List.take_length, List.getD, List.getElem?_append, List.length_map]
  by_cases h : i < l.length
  · simp [h]
  · rw [if_neg h, List.getElem?_replicate, List.getElem?_eq_none (l := l.map (·.toNat)) (by simpa using h)]
    split <;> rfl
theorem digL_lt (l : List UInt8) (i : Nat) : (digL l).getD i 0 < 256 := by
  rw [digL_at]
  simp only [List.getD, List.getElem?_map]
  cases l[i]? with
  | none => decide
  | some c => exact c.toNat_lt
theorem digL_vt (l : List UInt8) (m : Nat) (h : l.length ≤ m) : vt (digL l) m = leNat l := by
  rw [leNat, vt_ext _ (l.map (·.toNat)) m (fun i _ => digL_at l i)]
  obtain ⟨k, rfl⟩ := Nat.le.dest h
  exact vt_zeros _ _ _ fun i hi => by simp [List.getD, List.getElem?_eq_none (show l.length ≤ i from hi)]

set_option maxHeartbeats 1000000 in
theorem digits_any (A : Option Addr) (n cap : Nat) (l : List UInt8) (hn : n ≤ 17) (w : World) (h : BytesAt w (.slice A n cap) l) :
    Calls Try.prog 19 #[.slice A n cap, .int .i64 17] w fun e w' => ∃ g c', e = .returned (.slice (some ⟨g, 0, none⟩) 17 c') ∧ Ints w' w.heap.size (.slice (some ⟨g, 0, none⟩) 17 c') 17 (digL l) ∧ Below w.heap.size w w' := by
  have HZ := Lib.hid h.size
  have H := Lib.hid h
  clear h
  go_enter Try.func19, Try.ntmps19
  go_wp2_with (at_make; refine wpList_make_ints rfl _ _ rfl 17 rfl rfl (by decide) ?_)
  intro w1 o1 b1 z1
  have O1 : Hid (Ints w1 w.heap.size (.slice (some ⟨w.heap.size, 0, none⟩) 17 17) 17 (digTo l 0)) := o1
  have B1 := Lib.hid b1
  clear o1 b1 z1
  go_wp2_with fail
  go_loopw [6] (fun i wr => ∃ k : Nat, k ≤ n ∧ i = .int .i64 (k : Int) ∧ Ints wr w.heap.size (.slice (some ⟨w.heap.size, 0, none⟩) 17 17) 17 (digTo l k) ∧ Below w.heap.size w wr) (fun i _ => n - (intOf i).toNat)
  case atStart => exact ⟨0, Nat.zero_le _, rfl, O1.out, B1.out⟩
  case round =>
    obtain ⟨k, hk, rfl, ho, hb⟩ := hrel
    have HO := Lib.hid ho
    have HB := Lib.hid hb
    clear ho hb O1 B1
    by_cases hlt : k < n
    · obtain ⟨b, off, rfl, hbl, hcell⟩ := H.out.spots (by intro e; have := HZ.out.1; rw [e] at this; simp at this; omega)
      obtain ⟨x, hx⟩ : ∃ x, l[k]? = some x := ⟨_, List.getElem?_eq_getElem (by rw [← HZ.out.1]; exact hlt)⟩
      have c0 := (HB.out.cell (p := ⟨b, off + k, none⟩) hbl).trans (hcell k x hx)
      have HS := Lib.hid (digTo_set l k x hx (by omega))
      have jk : (k : Int) < (n : Int) := by omega
      have j17 : (k : Int) < 17 := by omega
      have dk : decide ((k : Int) < (n : Int)) = true := by simp; omega
      have xw : IntKind.i64.wrap (x.toNat : Int) = (x.toNat : Int) := by have := x.toNat_lt; rw [IntWalk.i64_in _ (by omega)]
      have k17 : k < 17 := by omega
      clear hx hcell
      go_wp2_with (with_reducible refine wpList_put_int rfl _ _ rfl w.heap.size w.heap.size k 17 17 ?hx x.toNat ?hy _ HO.out ?hi ?_)
      case hx => exact rfl
      case hy => exact rfl
      case hi => exact k17
      intro w2 g2 o2 z2
      rw [HS.out] at o2
      have O2 := Lib.hid o2
      have B2 := Lib.hid (HB.out.grown g2 HB.out.size (fun k hk => by injection hk; omega))
      clear g2 o2 z2 HO HB c0 xw
      go_wp2_with fail
      exact ⟨⟨k + 1, by omega, by go_num, O2.out, B2.out⟩, by simp [intOf]; omega⟩
    · obtain rfl : k = n := by omega
      have dk : decide ((k : Int) < (k : Int)) = false := by simp
      have HE : Hid (digTo l k = digL l) := by rw [Hid, digL, HZ.out.1]
      rw [HE.out] at HO
      go_wp2
      go_ret
      exact ⟨_, _, rfl, HO.out, HB.out⟩

set_option maxRecDepth 100000 in
set_option maxHeartbeats 2000000 in
/-- Each digit made less than 256: the number stays. -/
theorem carried_any (B0 g0 n cap : Nat) (l : List Nat) (hn : n ≤ 40) (hn1 : 0 < n) (hd : ∀ i, l.getD i 0 < 2 ^ 31) (w : World) (h : Ints w B0 (.slice (some ⟨g0, 0, none⟩) n cap) n l) :
    Calls Try.prog 25 #[.slice (some ⟨g0, 0, none⟩) n cap] w fun e w' => ∃ g c' T, e = .returned (.slice (some ⟨g, 0, none⟩) (n + 4) c') ∧ Ints w' w.heap.size (.slice (some ⟨g, 0, none⟩) (n + 4) c') (n + 4) T ∧ (∀ i, T.getD i 0 < 256) ∧ vt T (n + 4) = vt l n ∧ Below w.heap.size w w' := by
  have H := Lib.hid h
  have HL := Lib.hid h.len
  have HG : Hid (g0 < w.heap.size) := Lib.hid ((h.lt g0 rfl).2)
  have HD := Lib.hid hd
  have HN := Lib.hid hn
  have nw : IntKind.i64.wrap ((n : Int) + 4) = ((n + 4 : Nat) : Int) := by rw [IntWalk.i64_in _ (by omega)]; omega
  clear h hd
  obtain ⟨m, hm⟩ : ∃ m, m = n + 4 := ⟨_, rfl⟩
  rw [← hm] at nw
  have HM := Lib.hid hm
  clear hn hm hn1
  go_enter Try.func25, Try.ntmps25
  go_wp2_with (at_make; refine wpList_make_ints rfl _ _ rfl m rfl rfl (by have := HM.out; have := HN.out; omega) ?_)
  intro w1 o1 b1 z1
  have O1 := Lib.hid o1
  have B1 := Lib.hid b1
  clear o1 b1 z1 nw
  go_wp2_with fail
  go_loopw [3, 5] (fun u i wr => ∃ (k over : Nat) (T : List Nat), k ≤ m ∧ u = .int .i64 (over : Int) ∧ i = .int .i64 (k : Int) ∧ over < 2 ^ 31 ∧ (∀ j, T.getD j 0 < 256) ∧ vt T k + 256 ^ k * over = vt l k ∧ Ints wr w.heap.size (.slice (some ⟨w.heap.size, 0, none⟩) m m) m T ∧ Below w.heap.size w wr) (fun _ i _ => m - (intOf i).toNat)
  case atStart => exact ⟨0, 0, _, Nat.zero_le _, rfl, rfl, by decide, fun j => by simp [List.getD, List.getElem?_replicate]; split <;> simp, rfl, O1.out, B1.out⟩
  case round =>
    obtain ⟨k, over, T, hk, rfl, rfl, hov, hT, hv, ho, hb⟩ := hrel
    have HO := Lib.hid ho
    have HB := Lib.hid hb
    have HT := Lib.hid hT
    have HV := Lib.hid hv
    have LT := Lib.hid ho.len
    clear ho hb hT hv O1 B1
    by_cases hlt : k < m
    · have dk : decide ((k : Int) < (m : Int)) = true := by simp; omega
      have jk : (k : Int) < (m : Int) := by omega
      have m44 : m ≤ 44 := by have := HM.out; have := HN.out; omega
      obtain ⟨d, hdk⟩ : ∃ d, d = l.getD k 0 := ⟨_, rfl⟩
      have dlt : d < 2 ^ 31 := by rw [hdk]; exact HD.out k
      obtain ⟨x, hx⟩ : ∃ x, x = over + d := ⟨_, rfl⟩
      obtain ⟨q, hq⟩ : ∃ q, q = x / 256 := ⟨_, rfl⟩
      obtain ⟨r, hr⟩ : ∃ r, r = x % 256 := ⟨_, rfl⟩
      have HC : Hid (vt (T.set k r) (k + 1) + 256 ^ (k + 1) * q = vt l (k + 1)) := by
        have e1 : vt (T.set k r) (k + 1) = vt T k + 256 ^ k * r := by
          rw [vt, vt_set_out _ _ _ _ (by rw [LT.out]; exact hlt) (Nat.le_refl _), getD_set _ _ _ _ (by rw [LT.out]; exact hlt), if_pos rfl]
        have e2 := carry_step (vt l k) (vt T k) (256 ^ k) over d HV.out
        have e3 : vt l (k + 1) = vt l k + 256 ^ k * d := by rw [hdk]; rfl
        rw [Hid, e1, e3, Nat.pow_succ, hq, hr, hx]
        exact e2
      have HT2 : Hid (∀ j, (T.set k r).getD j 0 < 256) := Lib.hid fun j => by
        rw [getD_set _ _ _ _ (by rw [LT.out]; exact hlt)]
        split
        · omega
        · exact HT.out j
      have q31 : q < 2 ^ 31 := by omega
      have tq : IntKind.i64.wrap ((x : Int) / 256) = (q : Int) := by rw [IntWalk.i64_in _ (by omega)]; omega
      have tr : (x : Int).tmod 256 = (r : Int) := by rw [Int.tmod_eq_emod_of_nonneg (by omega)]; omega
      have tr2 : (x : Int) % 256 = (r : Int) := by omega
      have KM := Lib.hid (And.intro hlt (And.intro q31 m44))
      by_cases hkn : k < n
      · have dn : decide ((k : Int) < (n : Int)) = true := by simp; omega
        have jn : (k : Int) < (n : Int) := by omega
        have c0 := (HB.out.cell (p := ⟨g0, k, none⟩) HG.out).trans (H.out.cell k d (by rw [hdk, List.getD, List.getElem?_eq_getElem (by rw [HL.out]; exact hkn)]; rfl))
        have tx : IntKind.i64.wrap ((over : Int) + (d : Int)) = (x : Int) := by rw [IntWalk.i64_in _ (by omega)]; omega
        clear hx hq hr hdk dlt hov q31 hk hkn
        go_wp2_with (with_reducible refine wpList_put_int rfl _ _ rfl w.heap.size w.heap.size k m m ?hx r ?hy _ HO.out ?hi ?_)
        case hx => exact rfl
        case hy => first | exact rfl | exact congrArg (Value.int .i64) tr | exact congrArg (Value.int .i64) tr2
        case hi => exact KM.out.1
        intro w2 g2 o2 z2
        have O2 := Lib.hid o2
        have B2 := Lib.hid (HB.out.grown g2 HB.out.size (fun k hk => by injection hk; omega))
        clear g2 o2 z2 HO HB tr tr2 c0 tx
        have hlt := KM.out.1
        have m44 := KM.out.2.2
        go_wp2_with fail
        exact ⟨⟨k + 1, q, _, by omega, rfl, by go_num, KM.out.2.1, HT2.out, HC.out, O2.out, B2.out⟩, by simp [intOf]; omega⟩
      · have dn : decide ((k : Int) < (n : Int)) = false := by simp; omega
        have hd0 : d = 0 := by rw [hdk, List.getD, List.getElem?_eq_none (by rw [HL.out]; omega)]; rfl
        obtain rfl : x = over := by omega
        clear hx hq hr hdk dlt q31 hk
        go_wp2_with (with_reducible refine wpList_put_int rfl _ _ rfl w.heap.size w.heap.size k m m ?hx r ?hy _ HO.out ?hi ?_)
        case hx => exact rfl
        case hy => first | exact rfl | exact congrArg (Value.int .i64) tr | exact congrArg (Value.int .i64) tr2
        case hi => exact KM.out.1
        intro w2 g2 o2 z2
        have O2 := Lib.hid o2
        have B2 := Lib.hid (HB.out.grown g2 HB.out.size (fun k hk => by injection hk; omega))
        clear g2 o2 z2 HO HB tr tr2 hkn
        have hlt := KM.out.1
        have m44 := KM.out.2.2
        go_wp2_with fail
        exact ⟨⟨k + 1, q, _, by omega, rfl, by go_num, KM.out.2.1, HT2.out, HC.out, O2.out, B2.out⟩, by simp [intOf]; omega⟩
    · obtain rfl : k = m := by omega
      have dk : decide ((k : Int) < (k : Int)) = false := by simp
      have HE : Hid (vt T (n + 4) = vt l n) := by
        have e0 := HV.out
        have e1 := vt_zeros l n 4 (fun i hi => by simp [List.getD, List.getElem?_eq_none (show l.length ≤ i by rw [HL.out]; exact hi)])
        have e2 := vt_le l (2 ^ 31) n (fun i => Nat.le_of_lt (HD.out i))
        rw [HM.out, e1] at e0
        have e3 : 256 ^ (n + 4) = 4294967296 * 256 ^ n := by rw [Nat.pow_add, Nat.mul_comm]
        have e4 : 0 < 256 ^ n := Nat.pow_pos (by decide)
        have e5 : over = 0 := by
          rcases Nat.eq_zero_or_pos over with h0 | h0
          · exact h0
          · have := Nat.mul_le_mul_left (256 ^ (n + 4)) h0
            omega
        rw [e5] at e0
        exact Lib.hid (by simpa using e0)
      go_wp2
      go_ret
      rw [HM.out] at HO ⊢
      exact ⟨_, _, T, rfl, HO.out, HT.out, HE.out, HB.out⟩
end Go.Proofs.Ytbdcligpbogkjaa
