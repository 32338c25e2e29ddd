/- The document's field: what a message's fields are put as. (Written by tools/mkmrput.py.) -/
import Derived.Test.YtnjeopgcpffkcaaMMrR
import Derived.Test.YtnjeopgcpffkcaaGbe
import Derived.Test.YtnjeopgcpffkcaaGk
namespace Go.Proofs.Ytnjeopgcpffkcaa
set_option maxRecDepth 100000
open Go.RowKit

theorem refNum_b (v : Value) (l : List UInt8) (x size : Nat) (w : World) (h : BytesAt w v l) (h1 : 1 ≤ size) (h8 : size ≤ 8) (hl : l.length ≤ 3000) (hx : x < 18446744073709551616) :
    Calls Try.prog 29 #[v, .int .u64 (x : Int), .int .i64 (size : Int)] w fun e w' => ∃ v', e = .returned v' ∧ BytesAt w' v' (l ++ be size x) ∧ Below w.heap.size w w' := by
  obtain ⟨A, cap, rfl, -⟩ := id h
  refine (ref_num_put A l cap x size w h h1 h8 hl hx).mono ?_
  rintro e w' ⟨v', rfl, ho, hb⟩
  exact ⟨v', rfl, BytesAt.of_own ho, hb⟩
theorem cut_short (s : List UInt8) (h : s.length ≤ 65535) : cutText ⟨s.toArray⟩ = ⟨s.toArray⟩ := by
  have hs : (⟨s.toArray⟩ : ByteArray).size = s.length := rfl
  rw [cutText, Nat.min_eq_left (by rw [hs]; exact h)]
  exact ByteArray.extract_zero_size
theorem refText_b (v : Value) (l s : List UInt8) (w : World) (h : BytesAt w v l) (hl : l.length ≤ 3000) (hs : s.length ≤ 65535) :
    Calls Try.prog 62 #[v, .string ⟨s.toArray⟩] w fun e w' => ∃ v', e = .returned v' ∧ BytesAt w' v' (l ++ encS ⟨s.toArray⟩) ∧ Below w.heap.size w w' := by
  obtain ⟨A, cap, rfl, -⟩ := id h
  refine (ref_text_put A l cap ⟨s.toArray⟩ w h hl (by show s.length ≤ 70000; omega)).mono ?_
  rintro e w' ⟨v', rfl, ho, hb⟩
  rw [cut_short s hs] at ho
  exact ⟨v', rfl, BytesAt.of_own ho, hb⟩
def bitN (b : Bool) : Nat := if b then 1 else 0
theorem bitN_lt (b : Bool) : bitN b < 18446744073709551616 := by cases b <;> decide
set_option maxHeartbeats 1000000 in
theorem refBit_any (b : Bool) (w : World) : Calls Try.prog 61 #[.bool b] w fun e w' => e = .returned (.int .u64 (bitN b : Int)) ∧ w = w' := by
  cases b
  all_goals
    go_enter Try.func61, Try.ntmps61
    go_wp2
    go_ret
    exact ⟨rfl, rfl⟩

set_option maxHeartbeats 2000000 in
theorem refField_0 (m : Mg) (e t : Row) (hR : RightM m) (hok : m.Ok) (v : Value) (b : List UInt8) (hbl : b.length ≤ 1500) (w : World) (hI : Lists w e t m) (hb : BytesAt w v b) :
    Calls Try.prog 31 #[v, (m.raw e t).val, .int .u8 114] w fun x w' => ∃ v', x = .returned v' ∧ BytesAt w' v' (b ++ putF m 0) ∧ Below w.heap.size w w' := by
  have HI := Lib.hid hI
  have HR := Lib.hid hR
  have HO := Lib.hid hok
  have HL := Lib.hid hbl
  have HB := Lib.hid hb
  clear hI hR hok hbl hb
  have r := uN_wrap m.error
  go_enter Try.func31, Try.ntmps31
  go_wp2_with (refine wpList_box_row rfl 27 _ rfl (m.raw e t).enc.toArray (by with_unfolding_all exact rfl) ?_)
  intro w1 b1 x1 z1
  obtain ⟨gM, hgM⟩ : ∃ g, g = w.heap.size := ⟨_, rfl⟩
  have M_M := Lib.hid (show w.heap.size ≤ gM from by rw [hgM]; exact Nat.le_refl _)
  have B1 := Lib.hid b1
  rw [← hgM] at x1 ⊢
  have M1 : Hid (Mr.At w1 gM (m.raw e t)) := Lib.hid x1
  clear b1 x1 z1 hgM 
  have c : w1.cell? ⟨gM, 3, none⟩ = some (.int .i64 m.error) := M1.out.at_ 3
  have C := Lib.hid (refNum_b v b (uN m.error) 2 w1 (HB.out.below B1.out) (by decide) (by decide) (by have := HL.out; omega) (uN_lt _))
  go_wp2_with fail
  refine C.out.mono ?_
  rintro x u ⟨v1, rfl, y1, b1⟩
  have Y1 : Hid (BytesAt u v1 (b ++ putF m 0)) := Lib.hid y1
  have D1 := Lib.hid (B1.out.trans (b1.mono B1.out.size))
  clear y1 b1 C c M1 B1
  go_wp2
  go_ret
  exact ⟨_, rfl, Y1.out, D1.out⟩

set_option maxHeartbeats 2000000 in
theorem refField_1 (m : Mg) (e t : Row) (hR : RightM m) (hok : m.Ok) (v : Value) (b : List UInt8) (hbl : b.length ≤ 1500) (w : World) (hI : Lists w e t m) (hb : BytesAt w v b) :
    Calls Try.prog 31 #[v, (m.raw e t).val, .int .u8 104] w fun x w' => ∃ v', x = .returned v' ∧ BytesAt w' v' (b ++ putF m 1) ∧ Below w.heap.size w w' := by
  have HI := Lib.hid hI
  have HR := Lib.hid hR
  have HO := Lib.hid hok
  have HL := Lib.hid hbl
  have HB := Lib.hid hb
  clear hI hR hok hbl hb
  
  go_enter Try.func31, Try.ntmps31
  go_wp2_with (refine wpList_box_row rfl 27 _ rfl (m.raw e t).enc.toArray (by with_unfolding_all exact rfl) ?_)
  intro w1 b1 x1 z1
  obtain ⟨gM, hgM⟩ : ∃ g, g = w.heap.size := ⟨_, rfl⟩
  have M_M := Lib.hid (show w.heap.size ≤ gM from by rw [hgM]; exact Nat.le_refl _)
  have B1 := Lib.hid b1
  rw [← hgM] at x1 ⊢
  have M1 : Hid (Mr.At w1 gM (m.raw e t)) := Lib.hid x1
  clear b1 x1 z1 hgM 
  have c : w1.cell? ⟨gM, 5, none⟩ = some (.bool m.has) := M1.out.at_ 5
  go_wp2_with fail
  refine (refBit_any m.has _).mono ?_
  rintro x u0 ⟨rfl, rfl⟩
  have C := Lib.hid (refNum_b v b (bitN m.has) 1 w1 (HB.out.below B1.out) (by decide) (by decide) (by have := HL.out; omega) (bitN_lt _))
  go_wp2_with fail
  refine C.out.mono ?_
  rintro x u ⟨v1, rfl, y1, b1⟩
  have Y1 : Hid (BytesAt u v1 (b ++ putF m 1)) := Lib.hid y1
  have D1 := Lib.hid (B1.out.trans (b1.mono B1.out.size))
  clear y1 b1 C c M1 B1
  go_wp2
  go_ret
  exact ⟨_, rfl, Y1.out, D1.out⟩

set_option maxHeartbeats 2000000 in
theorem refField_2 (m : Mg) (e t : Row) (hR : RightM m) (hok : m.Ok) (v : Value) (b : List UInt8) (hbl : b.length ≤ 1500) (w : World) (hI : Lists w e t m) (hb : BytesAt w v b) :
    Calls Try.prog 31 #[v, (m.raw e t).val, .int .u8 103] w fun x w' => ∃ v', x = .returned v' ∧ BytesAt w' v' (b ++ putF m 2) ∧ Below w.heap.size w w' := by
  have HI := Lib.hid hI
  have HR := Lib.hid hR
  have HO := Lib.hid hok
  have HL := Lib.hid hbl
  have HB := Lib.hid hb
  clear hI hR hok hbl hb
  
  go_enter Try.func31, Try.ntmps31
  go_wp2_with (refine wpList_box_row rfl 27 _ rfl (m.raw e t).enc.toArray (by with_unfolding_all exact rfl) ?_)
  intro w1 b1 x1 z1
  obtain ⟨gM, hgM⟩ : ∃ g, g = w.heap.size := ⟨_, rfl⟩
  have M_M := Lib.hid (show w.heap.size ≤ gM from by rw [hgM]; exact Nat.le_refl _)
  have B1 := Lib.hid b1
  rw [← hgM] at x1 ⊢
  have M1 : Hid (Mr.At w1 gM (m.raw e t)) := Lib.hid x1
  clear b1 x1 z1 hgM 
  have c : w1.cell? ⟨gM, 6, none⟩ = some (.bool m.gone) := M1.out.at_ 6
  go_wp2_with fail
  refine (refBit_any m.gone _).mono ?_
  rintro x u0 ⟨rfl, rfl⟩
  have C := Lib.hid (refNum_b v b (bitN m.gone) 1 w1 (HB.out.below B1.out) (by decide) (by decide) (by have := HL.out; omega) (bitN_lt _))
  go_wp2_with fail
  refine C.out.mono ?_
  rintro x u ⟨v1, rfl, y1, b1⟩
  have Y1 : Hid (BytesAt u v1 (b ++ putF m 2)) := Lib.hid y1
  have D1 := Lib.hid (B1.out.trans (b1.mono B1.out.size))
  clear y1 b1 C c M1 B1
  go_wp2
  go_ret
  exact ⟨_, rfl, Y1.out, D1.out⟩

set_option maxHeartbeats 2000000 in
theorem refField_3 (m : Mg) (e t : Row) (hR : RightM m) (hok : m.Ok) (v : Value) (b : List UInt8) (hbl : b.length ≤ 1500) (w : World) (hI : Lists w e t m) (hb : BytesAt w v b) :
    Calls Try.prog 31 #[v, (m.raw e t).val, .int .u8 105] w fun x w' => ∃ v', x = .returned v' ∧ BytesAt w' v' (b ++ putF m 3) ∧ Below w.heap.size w w' := by
  have HI := Lib.hid hI
  have HR := Lib.hid hR
  have HO := Lib.hid hok
  have HL := Lib.hid hbl
  have HB := Lib.hid hb
  clear hI hR hok hbl hb
  
  go_enter Try.func31, Try.ntmps31
  go_wp2_with (refine wpList_box_row rfl 27 _ rfl (m.raw e t).enc.toArray (by with_unfolding_all exact rfl) ?_)
  intro w1 b1 x1 z1
  obtain ⟨gM, hgM⟩ : ∃ g, g = w.heap.size := ⟨_, rfl⟩
  have M_M := Lib.hid (show w.heap.size ≤ gM from by rw [hgM]; exact Nat.le_refl _)
  have B1 := Lib.hid b1
  rw [← hgM] at x1 ⊢
  have M1 : Hid (Mr.At w1 gM (m.raw e t)) := Lib.hid x1
  clear b1 x1 z1 hgM 
  have c : w1.cell? ⟨gM, 4, none⟩ = some (.int .u64 (m.id : Int)) := M1.out.at_ 4
  have C := Lib.hid (refNum_b v b (m.id) 8 w1 (HB.out.below B1.out) (by decide) (by decide) (by have := HL.out; omega) (HO.out.id))
  go_wp2_with fail
  refine C.out.mono ?_
  rintro x u ⟨v1, rfl, y1, b1⟩
  have Y1 : Hid (BytesAt u v1 (b ++ putF m 3)) := Lib.hid y1
  have D1 := Lib.hid (B1.out.trans (b1.mono B1.out.size))
  clear y1 b1 C c M1 B1
  go_wp2
  go_ret
  exact ⟨_, rfl, Y1.out, D1.out⟩

set_option maxHeartbeats 2000000 in
theorem refField_4 (m : Mg) (e t : Row) (hR : RightM m) (hok : m.Ok) (v : Value) (b : List UInt8) (hbl : b.length ≤ 1500) (w : World) (hI : Lists w e t m) (hb : BytesAt w v b) :
    Calls Try.prog 31 #[v, (m.raw e t).val, .int .u8 110] w fun x w' => ∃ v', x = .returned v' ∧ BytesAt w' v' (b ++ putF m 4) ∧ Below w.heap.size w w' := by
  have HI := Lib.hid hI
  have HR := Lib.hid hR
  have HO := Lib.hid hok
  have HL := Lib.hid hbl
  have HB := Lib.hid hb
  clear hI hR hok hbl hb
  have r := uN_wrap m.ver
  go_enter Try.func31, Try.ntmps31
  go_wp2_with (refine wpList_box_row rfl 27 _ rfl (m.raw e t).enc.toArray (by with_unfolding_all exact rfl) ?_)
  intro w1 b1 x1 z1
  obtain ⟨gM, hgM⟩ : ∃ g, g = w.heap.size := ⟨_, rfl⟩
  have M_M := Lib.hid (show w.heap.size ≤ gM from by rw [hgM]; exact Nat.le_refl _)
  have B1 := Lib.hid b1
  rw [← hgM] at x1 ⊢
  have M1 : Hid (Mr.At w1 gM (m.raw e t)) := Lib.hid x1
  clear b1 x1 z1 hgM 
  have c : w1.cell? ⟨gM, 2, none⟩ = some (.int .i64 m.ver) := M1.out.at_ 2
  have C := Lib.hid (refNum_b v b (uN m.ver) 4 w1 (HB.out.below B1.out) (by decide) (by decide) (by have := HL.out; omega) (uN_lt _))
  go_wp2_with fail
  refine C.out.mono ?_
  rintro x u ⟨v1, rfl, y1, b1⟩
  have Y1 : Hid (BytesAt u v1 (b ++ putF m 4)) := Lib.hid y1
  have D1 := Lib.hid (B1.out.trans (b1.mono B1.out.size))
  clear y1 b1 C c M1 B1
  go_wp2
  go_ret
  exact ⟨_, rfl, Y1.out, D1.out⟩

set_option maxHeartbeats 2000000 in
theorem refField_5 (m : Mg) (e t : Row) (hR : RightM m) (hok : m.Ok) (v : Value) (b : List UInt8) (hbl : b.length ≤ 1500) (w : World) (hI : Lists w e t m) (hb : BytesAt w v b) :
    Calls Try.prog 31 #[v, (m.raw e t).val, .int .u8 107] w fun x w' => ∃ v', x = .returned v' ∧ BytesAt w' v' (b ++ putF m 5) ∧ Below w.heap.size w w' := by
  have HI := Lib.hid hI
  have HR := Lib.hid hR
  have HO := Lib.hid hok
  have HL := Lib.hid hbl
  have HB := Lib.hid hb
  clear hI hR hok hbl hb
  
  go_enter Try.func31, Try.ntmps31
  go_wp2_with (refine wpList_box_row rfl 27 _ rfl (m.raw e t).enc.toArray (by with_unfolding_all exact rfl) ?_)
  intro w1 b1 x1 z1
  obtain ⟨gM, hgM⟩ : ∃ g, g = w.heap.size := ⟨_, rfl⟩
  have M_M := Lib.hid (show w.heap.size ≤ gM from by rw [hgM]; exact Nat.le_refl _)
  have B1 := Lib.hid b1
  rw [← hgM] at x1 ⊢
  have M1 : Hid (Mr.At w1 gM (m.raw e t)) := Lib.hid x1
  clear b1 x1 z1 hgM 
  have c : w1.cell? ⟨gM, 7, none⟩ = some (.string ⟨m.key.toArray⟩) := M1.out.at_ 7
  have C := Lib.hid (refText_b v b m.key w1 (HB.out.below B1.out) (by have := HL.out; omega) (by have := right_key HR.out; omega))
  go_wp2_with fail
  refine C.out.mono ?_
  rintro x u ⟨v1, rfl, y1, b1⟩
  have Y1 : Hid (BytesAt u v1 (b ++ putF m 5)) := Lib.hid y1
  have D1 := Lib.hid (B1.out.trans (b1.mono B1.out.size))
  clear y1 b1 C c M1 B1
  go_wp2
  go_ret
  exact ⟨_, rfl, Y1.out, D1.out⟩

set_option maxHeartbeats 2000000 in
theorem refField_6 (m : Mg) (e t : Row) (hR : RightM m) (hok : m.Ok) (v : Value) (b : List UInt8) (hbl : b.length ≤ 1500) (w : World) (hI : Lists w e t m) (hb : BytesAt w v b) :
    Calls Try.prog 31 #[v, (m.raw e t).val, .int .u8 118] w fun x w' => ∃ v', x = .returned v' ∧ BytesAt w' v' (b ++ putF m 6) ∧ Below w.heap.size w w' := by
  have HI := Lib.hid hI
  have HR := Lib.hid hR
  have HO := Lib.hid hok
  have HL := Lib.hid hbl
  have HB := Lib.hid hb
  clear hI hR hok hbl hb
  
  go_enter Try.func31, Try.ntmps31
  go_wp2_with (refine wpList_box_row rfl 27 _ rfl (m.raw e t).enc.toArray (by with_unfolding_all exact rfl) ?_)
  intro w1 b1 x1 z1
  obtain ⟨gM, hgM⟩ : ∃ g, g = w.heap.size := ⟨_, rfl⟩
  have M_M := Lib.hid (show w.heap.size ≤ gM from by rw [hgM]; exact Nat.le_refl _)
  have B1 := Lib.hid b1
  rw [← hgM] at x1 ⊢
  have M1 : Hid (Mr.At w1 gM (m.raw e t)) := Lib.hid x1
  clear b1 x1 z1 hgM 
  have c : w1.cell? ⟨gM, 8, none⟩ = some (.string ⟨m.val.toArray⟩) := M1.out.at_ 8
  have C := Lib.hid (refText_b v b m.val w1 (HB.out.below B1.out) (by have := HL.out; omega) (by have := HR.out.val; omega))
  go_wp2_with fail
  refine C.out.mono ?_
  rintro x u ⟨v1, rfl, y1, b1⟩
  have Y1 : Hid (BytesAt u v1 (b ++ putF m 6)) := Lib.hid y1
  have D1 := Lib.hid (B1.out.trans (b1.mono B1.out.size))
  clear y1 b1 C c M1 B1
  go_wp2
  go_ret
  exact ⟨_, rfl, Y1.out, D1.out⟩

set_option maxHeartbeats 2000000 in
theorem refField_7 (m : Mg) (e t : Row) (hR : RightM m) (hok : m.Ok) (v : Value) (b : List UInt8) (hbl : b.length ≤ 1500) (w : World) (hI : Lists w e t m) (hb : BytesAt w v b) :
    Calls Try.prog 31 #[v, (m.raw e t).val, .int .u8 101] w fun x w' => ∃ v', x = .returned v' ∧ BytesAt w' v' (b ++ putF m 7) ∧ Below w.heap.size w w' := by
  have HI := Lib.hid hI
  have HR := Lib.hid hR
  have HO := Lib.hid hok
  have HL := Lib.hid hbl
  have HB := Lib.hid hb
  clear hI hR hok hbl hb
  obtain ⟨A, n, cp⟩ := e
  obtain ⟨acc, hacc⟩ : ∃ acc : Nat → List UInt8, acc = fun k => b ++ be 1 n ++ entsL (m.es.take k) := ⟨_, rfl⟩
  have hn : n = m.es.length := HI.out.en
  have HN := Lib.hid hn
  have HM := Lib.hid HR.out.many
  have HA := Lib.hid (show RowsAt w (.slice A n cp) 6 (m.es.map Ent.enc) from HI.out.es)
  have HS : Hid (∀ k, (acc k).length ≤ 2500) := Lib.hid (fun k => by
    have h1 := entsL_length (l := m.es.take k) (fun x hx => HR.out.es x (List.mem_of_mem_take hx))
    have h2 := HL.out
    have h3 := HM.out
    rw [hacc]
    simp only [List.length_append, be_length]
    rw [List.length_take] at h1
    omega)
  have HZ : Hid (acc 0 = b ++ be 1 n) := Lib.hid (by rw [hacc]; simp [entsL])
  have HW : Hid (acc n = b ++ putF m 7) := Lib.hid (by rw [hacc]; simp only [putF]; rw [List.take_of_length_le (by omega), hn, List.append_assoc])
  have HC : Hid (∀ k x, m.es[k]? = some x → acc (k + 1) = acc k ++ encS ⟨(bytesE x).toArray⟩) := Lib.hid (fun k x hx => by rw [hacc]; simp only; rw [entsL_take hx, List.append_assoc (b ++ be 1 n)])
  have r0 : IntKind.u64.wrap (n : Int) = (n : Int) := wrap_u64_of_lt (by have := HM.out; omega)
  clear hacc hn
  go_enter Try.func31, Try.ntmps31
  go_wp2_with (refine wpList_box_row rfl 27 _ rfl (m.raw ⟨A, n, cp⟩ t).enc.toArray (by with_unfolding_all exact rfl) ?_)
  intro w1 b1 x1 z1
  obtain ⟨gM, hgM⟩ : ∃ g, g = w.heap.size := ⟨_, rfl⟩
  have M_M := Lib.hid (show w.heap.size ≤ gM from by rw [hgM]; exact Nat.le_refl _)
  have B1 := Lib.hid b1
  rw [← hgM] at x1 ⊢
  have M1 : Hid (Mr.At w1 gM (m.raw ⟨A, n, cp⟩ t)) := Lib.hid x1
  clear b1 x1 z1 hgM 
  have c : w1.cell? ⟨gM, 9, none⟩ = some (.slice A n cp) := M1.out.at_ 9
  have C := Lib.hid (refNum_b v b n 1 w1 (HB.out.below B1.out) (by decide) (by decide) (by have := HL.out; omega) (by have := HM.out; have := HN.out; omega))
  rw [← HZ.out] at C
  go_wp2_with fail
  refine C.out.mono ?_
  rintro x u ⟨v1, rfl, y1, b1⟩
  have Y1 := Lib.hid y1
  have MU : Hid (Mr.At u gM (m.raw ⟨A, n, cp⟩ t)) := Lib.hid (Whole.below M1.out b1 M1.out.lt)
  have BU := Lib.hid (B1.out.trans (b1.mono B1.out.size))
  clear y1 b1 C c M1 B1
  go_wp2_with fail
  go_loopw [0, 7] (fun u i wr => ∃ k : Nat, k ≤ n ∧ i = .int .i64 (k : Int) ∧ BytesAt wr u (acc k) ∧ Mr.At wr gM (m.raw ⟨A, n, cp⟩ t) ∧ Below w.heap.size w wr) (fun _ i _ => n - (intOf i).toNat)
  case atStart => exact ⟨0, Nat.zero_le _, rfl, Y1.out, MU.out, BU.out⟩
  case round =>
    obtain ⟨k, hk, rfl, hy, hm, hb⟩ := hrel
    have Y0 := Lib.hid hy
    have M0 := Lib.hid hm
    have B0 := Lib.hid hb
    clear hy hm hb Y1 MU BU
    have c : wr.cell? ⟨gM, 9, none⟩ = some (.slice A n cp) := M0.out.at_ 9
    by_cases hlt : k < n
    · have dk : decide ((k : Int) < (n : Int)) = true := by simp; omega
      have dk2 : decide (k < n) = true := by simp; omega
      have jk : (k : Int) < (n : Int) := by omega
      obtain ⟨x, hx⟩ : ∃ x, m.es[k]? = some x := ⟨_, List.getElem?_eq_getElem (by rw [← HN.out]; exact hlt)⟩
      obtain ⟨g, off, rfl, hgl, hc⟩ := HA.out.row (entC_len m.es) (by decide) (map_at hx)
      have HX := Lib.hid (fun j u (hj : x.enc[j]? = some u) => (B0.out.cell (p := ⟨g, off + k * 6 + j, none⟩) hgl).trans (hc j u hj))
      have HE := Lib.hid (HC.out k x hx)
      obtain ⟨hx1, hx2, hx3⟩ := bytesE_right (HR.out.es x (List.mem_of_getElem? hx))
      have CB := fun w => Lib.hid (refBytes_any x (by omega) (by omega) (HO.out.es x (List.mem_of_getElem? hx)) w)
      have HY := Lib.hid hx3
      have r4 : IntKind.i64.wrap ((k : Int) + 1) = ((k + 1 : Nat) : Int) := by have := HM.out; have := HN.out; rw [IntWalk.i64_in _ (by omega)]; omega
      clear hc hx hx1 hx2 hx3
      go_wp2_with (with_reducible refine wpList_load_rec Ent.isRec rfl _ rfl g (off + k * 6) (by with_unfolding_all exact rfl) x.enc (Ent.len _) HX.out ?_)
      refine (CB _).out.mono ?_
      rintro y u3 ⟨v3, rfl, y3, b3⟩
      have YA := Lib.hid (Y0.out.below b3)
      have M3 : Hid (Mr.At u3 gM (m.raw ⟨some ⟨g, off, none⟩, n, cp⟩ t)) := Lib.hid (Whole.below M0.out b3 M0.out.lt)
      have B3 := Lib.hid (B0.out.trans (b3.mono B0.out.size))
      have r3 := conv_bytes y3
      have CT := Lib.hid (refText_b u0 (acc k) (bytesE x) u3 YA.out (by have := HS.out k; omega) (by have := HY.out; omega))
      rw [← HE.out] at CT
      clear y3 b3 Y0 M0 B0 CB HX c
      go_wp2_with fail
      refine CT.out.mono ?_
      rintro y u4 ⟨v4, rfl, y4, b4⟩
      have Y4 := Lib.hid y4
      have M4 : Hid (Mr.At u4 gM (m.raw ⟨some ⟨g, off, none⟩, n, cp⟩ t)) := Lib.hid (Whole.below M3.out b4 M3.out.lt)
      have B4 := Lib.hid (B3.out.trans (b4.mono B3.out.size))
      clear y4 b4 CT YA M3 B3 r3
      go_wp2
      exact ⟨⟨k + 1, by omega, by go_num, Y4.out, M4.out, B4.out⟩, by simp [intOf]; omega⟩
    · obtain rfl : k = n := by omega
      have dk : decide ((k : Int) < (k : Int)) = false := by simp
      rw [HW.out] at Y0
      go_wp2
      go_ret
      exact ⟨_, rfl, Y0.out, B0.out⟩

set_option maxHeartbeats 2000000 in
theorem refField_8 (m : Mg) (e t : Row) (hR : RightM m) (hok : m.Ok) (v : Value) (b : List UInt8) (hbl : b.length ≤ 1500) (w : World) (hI : Lists w e t m) (hb : BytesAt w v b) :
    Calls Try.prog 31 #[v, (m.raw e t).val, .int .u8 116] w fun x w' => ∃ v', x = .returned v' ∧ BytesAt w' v' (b ++ putF m 8) ∧ Below w.heap.size w w' := by
  have HI := Lib.hid hI
  have HR := Lib.hid hR
  have HO := Lib.hid hok
  have HL := Lib.hid hbl
  have HB := Lib.hid hb
  clear hI hR hok hbl hb
  obtain ⟨A, n, cp⟩ := t
  obtain ⟨acc, hacc⟩ : ∃ acc : Nat → List UInt8, acc = fun k => b ++ be 1 n ++ itemsL (m.its.take k) := ⟨_, rfl⟩
  have hn : n = m.its.length := HI.out.tn
  have HN := Lib.hid hn
  have HM := Lib.hid HR.out.items
  have HA := Lib.hid (show RowsAt w (.slice A n cp) 4 (m.its.map Item.enc) from HI.out.its)
  have HS : Hid (∀ k, (acc k).length ≤ 2800) := Lib.hid (fun k => by
    have h1 := itemsL_length (l := m.its.take k) (fun x hx => HR.out.its x (List.mem_of_mem_take hx))
    have h2 := HL.out
    have h3 := HM.out
    rw [hacc]
    simp only [List.length_append, be_length]
    rw [List.length_take] at h1
    omega)
  have HZ : Hid (acc 0 = b ++ be 1 n) := Lib.hid (by rw [hacc]; simp [itemsL])
  have HW : Hid (acc n = b ++ putF m 8) := Lib.hid (by rw [hacc]; simp only [putF]; rw [List.take_of_length_le (by omega), hn, List.append_assoc])
  have HC : Hid (∀ k x, m.its[k]? = some x → acc (k + 1) = acc k ++ encS ⟨x.key.toArray⟩ ++ encS ⟨x.text.toArray⟩ ++ be 4 (uN x.ver) ++ be 1 (bitN x.gone)) := Lib.hid (fun k x hx => by rw [hacc]; simp only; rw [itemsL_take hx, itemL]; simp only [List.append_assoc]; rfl)
  have r0 : IntKind.u64.wrap (n : Int) = (n : Int) := wrap_u64_of_lt (by have := HM.out; omega)
  clear hacc hn
  go_enter Try.func31, Try.ntmps31
  go_wp2_with (refine wpList_box_row rfl 27 _ rfl (m.raw e ⟨A, n, cp⟩).enc.toArray (by with_unfolding_all exact rfl) ?_)
  intro w1 b1 x1 z1
  obtain ⟨gM, hgM⟩ : ∃ g, g = w.heap.size := ⟨_, rfl⟩
  have M_M := Lib.hid (show w.heap.size ≤ gM from by rw [hgM]; exact Nat.le_refl _)
  have B1 := Lib.hid b1
  rw [← hgM] at x1 ⊢
  have M1 : Hid (Mr.At w1 gM (m.raw e ⟨A, n, cp⟩)) := Lib.hid x1
  clear b1 x1 z1 hgM 
  have c : w1.cell? ⟨gM, 10, none⟩ = some (.slice A n cp) := M1.out.at_ 10
  have C := Lib.hid (refNum_b v b n 1 w1 (HB.out.below B1.out) (by decide) (by decide) (by have := HL.out; omega) (by have := HM.out; have := HN.out; omega))
  rw [← HZ.out] at C
  go_wp2_with fail
  refine C.out.mono ?_
  rintro x u ⟨v1, rfl, y1, b1⟩
  have Y1 := Lib.hid y1
  have MU : Hid (Mr.At u gM (m.raw e ⟨A, n, cp⟩)) := Lib.hid (Whole.below M1.out b1 M1.out.lt)
  have BU := Lib.hid (B1.out.trans (b1.mono B1.out.size))
  clear y1 b1 C c M1 B1
  go_wp2_with fail
  go_loopw [0, 8] (fun u i wr => ∃ k : Nat, k ≤ n ∧ i = .int .i64 (k : Int) ∧ BytesAt wr u (acc k) ∧ Mr.At wr gM (m.raw e ⟨A, n, cp⟩) ∧ Below w.heap.size w wr) (fun _ i _ => n - (intOf i).toNat)
  case atStart => exact ⟨0, Nat.zero_le _, rfl, Y1.out, MU.out, BU.out⟩
  case round =>
    obtain ⟨k, hk, rfl, hy, hm, hb⟩ := hrel
    have Y2 := Lib.hid hy
    have M2 := Lib.hid hm
    have B2 := Lib.hid hb
    clear hy hm hb Y1 MU BU
    have c : wr.cell? ⟨gM, 10, none⟩ = some (.slice A n cp) := M2.out.at_ 10
    by_cases hlt : k < n
    · have dk : decide ((k : Int) < (n : Int)) = true := by simp; omega
      have dk2 : decide (k < n) = true := by simp; omega
      have jk : (k : Int) < (n : Int) := by omega
      obtain ⟨x, hx⟩ : ∃ x, m.its[k]? = some x := ⟨_, List.getElem?_eq_getElem (by rw [← HN.out]; exact hlt)⟩
      obtain ⟨g, off, rfl, hgl, hc⟩ := HA.out.row (itemC_len m.its) (by decide) (map_at hx)
      have HX := Lib.hid (fun wz (bz : Below w.heap.size w wz) j u (hj : x.enc[j]? = some u) => (bz.cell (p := ⟨g, off + k * 4 + j, none⟩) hgl).trans (hc j u hj))
      have HE := Lib.hid (HC.out k x hx)
      have HI2 := Lib.hid (item_right (HR.out.its x (List.mem_of_getElem? hx)))
      have rv : IntKind.u64.wrap x.ver = (uN x.ver : Int) := uN_wrap x.ver
      have r4 : IntKind.i64.wrap ((k : Int) + 1) = ((k + 1 : Nat) : Int) := by have := HM.out; have := HN.out; rw [IntWalk.i64_in _ (by omega)]; omega
      have HSk := Lib.hid (HS.out k)
      clear hc hx
      generalize acc k = ak at *
      have cx : wr.cell? ⟨g, off + k * 4, none⟩ = some (.string ⟨x.key.toArray⟩) := HX.out wr B2.out 0 _ rfl
      have CT := Lib.hid (refText_b u0 ak x.key wr Y2.out (by have := HSk.out; omega) (by have := HI2.out; omega))
      go_wp2_with fail
      refine CT.out.mono ?_
      rintro y u3 ⟨v3, rfl, y3, b3⟩
      have Y3 := Lib.hid y3
      have M3 : Hid (Mr.At u3 gM (m.raw e ⟨some ⟨g, off, none⟩, n, cp⟩)) := Lib.hid (Whole.below M2.out b3 M2.out.lt)
      have B3 := Lib.hid (B2.out.trans (b3.mono B2.out.size))
      clear y3 b3 CT Y2 M2 B2 c cx
      have cx : u3.cell? ⟨g, off + k * 4 + 1, none⟩ = some (.string ⟨x.text.toArray⟩) := HX.out u3 B3.out 1 _ rfl
      have c : u3.cell? ⟨gM, 10, none⟩ = some (.slice (some ⟨g, off, none⟩) n cp) := M3.out.at_ 10
      have CT := Lib.hid (refText_b v3 (ak ++ encS ⟨x.key.toArray⟩) x.text u3 Y3.out (by have := HSk.out; have := HI2.out; rw [List.length_append, encS_len]; omega) (by have := HI2.out; omega))
      go_wp2_with fail
      refine CT.out.mono ?_
      rintro y u4 ⟨v4, rfl, y4, b4⟩
      have Y4 := Lib.hid y4
      have M4 : Hid (Mr.At u4 gM (m.raw e ⟨some ⟨g, off, none⟩, n, cp⟩)) := Lib.hid (Whole.below M3.out b4 M3.out.lt)
      have B4 := Lib.hid (B3.out.trans (b4.mono B3.out.size))
      clear y4 b4 CT Y3 M3 B3 c cx
      have cx : u4.cell? ⟨g, off + k * 4 + 2, none⟩ = some (.int .i64 x.ver) := HX.out u4 B4.out 2 _ rfl
      have c : u4.cell? ⟨gM, 10, none⟩ = some (.slice (some ⟨g, off, none⟩) n cp) := M4.out.at_ 10
      have CT := Lib.hid (refNum_b v4 (ak ++ encS ⟨x.key.toArray⟩ ++ encS ⟨x.text.toArray⟩) (uN x.ver) 4 u4 Y4.out (by decide) (by decide) (by have := HSk.out; have := HI2.out; rw [List.length_append, List.length_append, encS_len, encS_len]; omega) (uN_lt _))
      go_wp2_with fail
      refine CT.out.mono ?_
      rintro y u5 ⟨v5, rfl, y5, b5⟩
      have Y5 := Lib.hid y5
      have M5 : Hid (Mr.At u5 gM (m.raw e ⟨some ⟨g, off, none⟩, n, cp⟩)) := Lib.hid (Whole.below M4.out b5 M4.out.lt)
      have B5 := Lib.hid (B4.out.trans (b5.mono B4.out.size))
      clear y5 b5 CT Y4 M4 B4 c cx
      have cx : u5.cell? ⟨g, off + k * 4 + 3, none⟩ = some (.bool x.gone) := HX.out u5 B5.out 3 _ rfl
      have c : u5.cell? ⟨gM, 10, none⟩ = some (.slice (some ⟨g, off, none⟩) n cp) := M5.out.at_ 10
      have CT := Lib.hid (refNum_b v5 (ak ++ encS ⟨x.key.toArray⟩ ++ encS ⟨x.text.toArray⟩ ++ be 4 (uN x.ver)) (bitN x.gone) 1 u5 Y5.out (by decide) (by decide) (by have := HSk.out; have := HI2.out; rw [List.length_append, List.length_append, List.length_append, encS_len, encS_len, be_length]; omega) (bitN_lt _))
      rw [← HE.out] at CT
      go_wp2_with fail
      refine (refBit_any x.gone _).mono ?_
      rintro y uz ⟨rfl, rfl⟩
      go_wp2_with fail
      refine CT.out.mono ?_
      rintro y u6 ⟨v6, rfl, y6, b6⟩
      have Y6 := Lib.hid y6
      have M6 : Hid (Mr.At u6 gM (m.raw e ⟨some ⟨g, off, none⟩, n, cp⟩)) := Lib.hid (Whole.below M5.out b6 M5.out.lt)
      have B6 := Lib.hid (B5.out.trans (b6.mono B5.out.size))
      clear y6 b6 CT Y5 M5 B5 c cx
      go_wp2
      exact ⟨⟨k + 1, by omega, by go_num, Y6.out, M6.out, B6.out⟩, by simp [intOf]; omega⟩
    · obtain rfl : k = n := by omega
      have dk : decide ((k : Int) < (k : Int)) = false := by simp
      rw [HW.out] at Y2
      go_wp2
      go_ret
      exact ⟨_, rfl, Y2.out, B2.out⟩

theorem refField_any (f : Nat) (hf : f < 9) (m : Mg) (e t : Row) (hR : RightM m) (hok : m.Ok) (v : Value) (b : List UInt8) (hbl : b.length ≤ 1500) (w : World) (hI : Lists w e t m) (hb : BytesAt w v b) :
    Calls Try.prog 31 #[v, (m.raw e t).val, .int .u8 ((letC f).toNat : Int)] w fun x w' => ∃ v', x = .returned v' ∧ BytesAt w' v' (b ++ putF m f) ∧ Below w.heap.size w w' :=
  match f, hf with
  | 0, _ => refField_0 m e t hR hok v b hbl w hI hb
  | 1, _ => refField_1 m e t hR hok v b hbl w hI hb
  | 2, _ => refField_2 m e t hR hok v b hbl w hI hb
  | 3, _ => refField_3 m e t hR hok v b hbl w hI hb
  | 4, _ => refField_4 m e t hR hok v b hbl w hI hb
  | 5, _ => refField_5 m e t hR hok v b hbl w hI hb
  | 6, _ => refField_6 m e t hR hok v b hbl w hI hb
  | 7, _ => refField_7 m e t hR hok v b hbl w hI hb
  | 8, _ => refField_8 m e t hR hok v b hbl w hI hb
  | n + 9, h => absurd h (by omega)
end Go.Proofs.Ytnjeopgcpffkcaa
