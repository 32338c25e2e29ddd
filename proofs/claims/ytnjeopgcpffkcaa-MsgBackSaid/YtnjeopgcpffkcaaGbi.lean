/- The chapter's example (works of layer 16); what the statements' cores share. A message that came in: a struct by value with two slices in it, opened. -/
import Derived.Test.YtnjeopgcpffkcaaGbf
import Derived.Test.YtnjeopgcpffkcaaGbg
import Derived.Test.YtnjeopgcpffkcaaGbh
import Derived.Test.YtnjeopgcpffkcaaGt
import Derived.Test.YtnjeopgcpffkcaaGm
import Derived.Deep.Slices
import Derived.ChangeArms
namespace Go.Proofs.Ytnjeopgcpffkcaa
set_option maxRecDepth 100000
open Go.RowKit

/-- What changed since a world: blocks that came later alone. -/
structure Since (w0 w : World) : Prop where
  b : Below w0.heap.size w0 w
theorem Since.below {w0 w w' : World} (h : Since w0 w) (b : Below w.heap.size w w') : Since w0 w' := ⟨h.b.trans (b.mono h.b.size)⟩
theorem Since.far {w0 w w' : World} {g : Nat} (h : Since w0 w) (q : w.grownBy w' (some g)) (hg : w0.heap.size ≤ g) : Since w0 w' := ⟨h.b.grown q h.b.size (fun k hk => by injection hk with hk; omega)⟩
theorem refSame_self (a : Mg) (e t e' t' : Row) (hes : a.es.length ≤ 1000000) (hits : a.its.length ≤ 1000000) (w : World) (ha : Lists w e t a) (hb : Lists w e' t' a) :
    Calls Try.prog 14 #[(a.raw e t).val, (a.raw e' t').val] w fun x w' => x = .returned (.bool true) ∧ Below w.heap.size w w' := by
  have h := refMsSame_any a a e t e' t' hes hits w ha hb
  rwa [decide_eq_true rfl] at h
theorem msSame_self (a : Mg) (e t e' t' : Row) (hes : a.es.length ≤ 1000000) (hits : a.its.length ≤ 1000000) (w : World) (ha : Lists w e t a) (hb : Lists w e' t' a) :
    Calls Try.prog 21 #[(a.raw e t).val, (a.raw e' t').val] w fun x w' => x = .returned (.bool true) ∧ Below w.heap.size w w' := by
  have h := msSame_any a a e t e' t' hes hits w ha hb
  rwa [decide_eq_true rfl] at h
theorem msTake_is {b : List UInt8} {n : Mg} {c : Int} (hT : takeM b = (n, c)) (A : Option Addr) (N cap : Nat) (w : World) (h : BytesAt w (.slice A N cap) b) :
    Calls Try.prog 19 #[.slice A N cap] w fun x w' => ∃ e t, x = .returned (.tuple #[(n.raw e t).val, .int .i64 c]) ∧ Lists w' e t n ∧ Below w.heap.size w w' := by
  have q := msTake_any A N cap b w h
  rw [hT] at q
  exact q
theorem bytes_form {w : World} {v : Value} {l : List UInt8} (h : BytesAt w v l) : ∃ A cap, v = .slice A l.length cap := by
  obtain ⟨A, cap, e, -⟩ := h
  exact ⟨A, cap, e⟩
/-- A message that may be is put. -/
theorem msPut_right {m : Mg} (hR : RightM m) (e t : Row) (w : World) (h : Lists w e t m) :
    Calls Try.prog 10 #[(m.raw e t).val] w fun x w' => ∃ A cap, x = .returned (.tuple #[.slice A (putB m).length cap, .int .i64 0]) ∧ BytesAt w' (.slice A (putB m).length cap) (putB m) ∧ Below w.heap.size w w' := by
  have q := msPut_any m e t (Nat.le_trans hR.many (by decide)) (Nat.le_trans hR.items (by decide)) w h
  rw [if_pos hR, if_pos hR] at q
  refine q.mono ?_
  rintro x w' ⟨v, rfl, hb, hl⟩
  obtain ⟨A, cap, rfl⟩ := bytes_form hb
  exact ⟨A, cap, rfl, hb, hl⟩
def exM : Mg := ⟨6, 2, 0, 0, 3, false, false, [], [], [], []⟩
theorem ex_right : RightM exM := by decide +kernel
theorem ex_puts : putB exM = [6, 0, 0, 0, 2, 0, 0, 0, 0, 0, 0, 0, 3] := by decide +kernel
theorem ex_took : takeM [6, 0, 0, 0, 2, 0, 0, 0, 0, 0, 0, 0, 3] = (exM, 0) := by
  rw [← ex_puts]
  exact takeM_put ex_right ⟨by decide, fun e he => by cases he⟩
theorem ex_none : takeM [99] = (Mg.zero, 13) := by decide +kernel
theorem ex_put (w : World) : Calls Try.prog 10 #[(exM.raw Row.nil Row.nil).val] w fun x w' => ∃ A cap, x = .returned (.tuple #[.slice A 13 cap, .int .i64 0]) ∧ BytesAt w' (.slice A 13 cap) [6, 0, 0, 0, 2, 0, 0, 0, 0, 0, 0, 0, 3] ∧ Below w.heap.size w w' := by
  have q := msPut_right ex_right Row.nil Row.nil w ⟨rows_nil w 6, rows_nil w 4⟩
  rw [ex_puts] at q
  exact q
theorem take_lit (w : World) : Calls Try.prog 19 #[.slice (some ⟨w.heap.size, 0, none⟩) 1 1] (w.alloc (.cells #[.int .u8 99] 5)) fun x w' => ∃ e t, x = .returned (.tuple #[(Mg.zero.raw e t).val, .int .i64 13]) ∧ Below w.heap.size w w' := by
  have yl : BytesAt (w.alloc (.cells #[.int .u8 99] 5)) (.slice (some ⟨w.heap.size, 0, none⟩) 1 1) [99] := BytesAt.lit w [99] _ rfl
  have bl : Below w.heap.size w (w.alloc (.cells #[.int .u8 99] 5)) := (Below.refl _ _).alloc (Nat.le_refl _) _
  refine (msTake_is ex_none _ _ _ _ yl).mono ?_
  rintro x w' ⟨e, t, rfl, -, b⟩
  exact ⟨e, t, rfl, bl.trans (b.mono bl.size)⟩
theorem answer_ten (w : World) : Calls Try.prog 22 #[.int .i64 10] w fun e w' => e = .returned (.int .i64 11) ∧ Below w.heap.size w w' := by
  have q := msAnswer_any 10 w
  rwa [show answerK 10 = 11 from by decide] at q
set_option maxHeartbeats 2000000 in
theorem works16 (w : World) :
    Calls Try.prog 8 #[] w fun e w' => e = .returned (.bool true) ∧ Below w.heap.size w w' := by
  have HT := Lib.hid ex_took
  go_enter Try.func8, Try.ntmps8
  go_wp2_with (with_reducible refine wpList_build_rec rfl 27 _ rfl #[(0, .int .i64 6), (1, .int .i64 2), (4, .int .u64 3)] (by with_unfolding_all exact rfl) (exM.raw Row.nil Row.nil).enc.toArray (by kernel_rfl) ?_)
  refine (ex_put w).mono ?_
  rintro e1 w1 ⟨A1, cap1, rfl, y1, b1⟩
  have B1 := Lib.hid b1
  have Y1 : Hid (BytesAt w1 (.slice A1 13 cap1) [6, 0, 0, 0, 2, 0, 0, 0, 0, 0, 0, 0, 3]) := Lib.hid y1
  clear b1 y1
  obtain ⟨m, hm⟩ : ∃ m, m = exM := ⟨_, rfl⟩
  have M0 := Lib.hid (show m.rid = 2 ∧ m.id = 3 by rw [hm]; exact ⟨rfl, rfl⟩)
  rw [← hm] at HT
  clear hm
  have YB := Lib.hid Y1.out
  clear Y1
  have D1 : Hid (Since w1 w1) := Lib.hid (⟨Below.refl _ _⟩)
  go_wp2_with fail
  refine (msTake_is HT.out A1 13 cap1 w1 YB.out).mono ?_
  rintro e2 w2 ⟨e2, t2, rfl, -, b2⟩
  have D2 : Hid (Since w1 w2) := Lib.hid (D1.out.below b2)
  have B2 := Lib.hid (B1.out.trans (b2.mono B1.out.size))
  clear b2 D1 B1
  go_wp2_with (refine wpList_alloc_row rfl 27 rfl Mr.zero.enc.toArray Mr.zero_is ?_)
  intro w3 b3 x3 z3
  obtain ⟨gX, hgX⟩ : ∃ g, g = w2.heap.size := ⟨_, rfl⟩
  have L_D_X := Lib.hid (show w1.heap.size ≤ gX from by rw [hgX]; exact D2.out.b.size)
  have M_X := Lib.hid (show w.heap.size ≤ gX from by rw [hgX]; exact B2.out.size)
  have D3 : Hid (Since w1 w3) := Lib.hid (D2.out.below b3)
  have B3 := Lib.hid (B2.out.trans (b3.mono B2.out.size))
  rw [← hgX] at x3 ⊢
  have X3 : Hid (Mr.At w3 gX Mr.zero) := Lib.hid x3
  clear b3 x3 z3 hgX D2 B2
  go_wp2_with (first | (with_reducible refine wpList_load_whole_st Mr.isRec rfl _ rfl gX (by with_unfolding_all exact rfl) _ _ (Mr.len _) X3.out ?_) | (with_reducible refine wpList_store_whole rfl 27 _ _ rfl gX (m.raw e2 t2).enc.toArray (by with_unfolding_all exact rfl) (by with_unfolding_all exact rfl) _ _ X3.out (Mr.size _) rfl (Mr.one _) ?_))
  intro w4 q4 x4 z4
  have X4 : Hid (Mr.At w4 gX (m.raw e2 t2)) := Lib.hid x4
  have D4 : Hid (Since w1 w4) := Lib.hid (D3.out.far q4 L_D_X.out)
  have B4 := Lib.hid (B3.out.grown q4 B3.out.size (fun k hk => by injection hk with hk; have := M_X.out; omega))
  clear q4 x4 z4 X3 D3 B3
  go_wp2_with (with_reducible refine wpList_load_whole_st Mr.isRec rfl _ rfl gX (by with_unfolding_all exact rfl) _ _ (Mr.len _) X4.out ?_)
  refine (take_lit w4).mono ?_
  rintro e5 w5 ⟨e3, t3, rfl, b5⟩
  have D5 : Hid (Since w1 w5) := Lib.hid (D4.out.below b5)
  have X5 : Hid (Mr.At w5 gX (m.raw e2 t2)) := Lib.hid (Whole.below X4.out b5 X4.out.lt)
  have B5 := Lib.hid (B4.out.trans (b5.mono B4.out.size))
  clear b5 D4 X4 B4
  go_wp2_with (first | (with_reducible refine wpList_load_whole_st Mr.isRec rfl _ rfl gX (by with_unfolding_all exact rfl) _ _ (Mr.len _) X5.out ?_) | (refine wpList_alloc_row rfl 27 rfl Mr.zero.enc.toArray Mr.zero_is ?_))
  intro w6 b6 x6 z6
  obtain ⟨gZ, hgZ⟩ : ∃ g, g = w5.heap.size := ⟨_, rfl⟩
  have L_D_Z := Lib.hid (show w1.heap.size ≤ gZ from by rw [hgZ]; exact D5.out.b.size)
  have N_X_Z := Lib.hid (show gX < gZ from by rw [hgZ]; exact X5.out.lt)
  have M_Z := Lib.hid (show w.heap.size ≤ gZ from by rw [hgZ]; exact B5.out.size)
  have D6 : Hid (Since w1 w6) := Lib.hid (D5.out.below b6)
  have X6 : Hid (Mr.At w6 gX (m.raw e2 t2)) := Lib.hid (Whole.below X5.out b6 X5.out.lt)
  have B6 := Lib.hid (B5.out.trans (b6.mono B5.out.size))
  rw [← hgZ] at x6 ⊢
  have Z6 : Hid (Mr.At w6 gZ Mr.zero) := Lib.hid x6
  clear b6 x6 z6 hgZ D5 X5 B5
  go_wp2_with (first | (with_reducible refine wpList_load_whole_st Mr.isRec rfl _ rfl gX (by with_unfolding_all exact rfl) _ _ (Mr.len _) X6.out ?_) | (with_reducible refine wpList_load_whole_st Mr.isRec rfl _ rfl gZ (by with_unfolding_all exact rfl) _ _ (Mr.len _) Z6.out ?_) | (with_reducible refine wpList_store_whole rfl 27 _ _ rfl gZ (Mg.zero.raw e3 t3).enc.toArray (by with_unfolding_all exact rfl) (by with_unfolding_all exact rfl) _ _ Z6.out (Mr.size _) rfl (Mr.one _) ?_))
  intro w7 q7 x7 z7
  have Z7 : Hid (Mr.At w7 gZ (Mg.zero.raw e3 t3)) := Lib.hid x7
  have D7 : Hid (Since w1 w7) := Lib.hid (D6.out.far q7 L_D_Z.out)
  have X7 : Hid (Mr.At w7 gX (m.raw e2 t2)) := Lib.hid (grown_far X6.out q7 (by have := N_X_Z.out; omega))
  have B7 := Lib.hid (B6.out.grown q7 B6.out.size (fun k hk => by injection hk with hk; have := M_Z.out; omega))
  clear q7 x7 z7 Z6 D6 X6 B6
  have r := conv_bytes (YB.out.below D7.out.b)
  have x1 : w7.cell? ⟨gX, 1, none⟩ = some (.int .i64 2) := by have q := Mr.At.at_rid X7.out; rw [show (m.raw e2 t2).rid = 2 from M0.out.1] at q; exact q
  have x4 : w7.cell? ⟨gX, 4, none⟩ = some (.int .u64 3) := by have q := Mr.At.at_id X7.out; rw [show (m.raw e2 t2).id = 3 from M0.out.2] at q; exact q
  go_wp2_with (first | (with_reducible refine wpList_load_whole_st Mr.isRec rfl _ rfl gX (by with_unfolding_all exact rfl) _ _ (Mr.len _) X7.out ?_) | (with_reducible refine wpList_load_whole_st Mr.isRec rfl _ rfl gZ (by with_unfolding_all exact rfl) _ _ (Mr.len _) Z7.out ?_))
  refine (answer_ten w7).mono ?_
  rintro e8 w8 ⟨rfl, b8⟩
  have D8 : Hid (Since w1 w8) := Lib.hid (D7.out.below b8)
  have X8 : Hid (Mr.At w8 gX (m.raw e2 t2)) := Lib.hid (Whole.below X7.out b8 X7.out.lt)
  have Z8 : Hid (Mr.At w8 gZ (Mg.zero.raw e3 t3)) := Lib.hid (Whole.below Z7.out b8 Z7.out.lt)
  have B8 := Lib.hid (B7.out.trans (b8.mono B7.out.size))
  clear b8 D7 X7 Z7 B7
  go_wp2
  go_ret
  exact ⟨rfl, B8.out⟩
end Go.Proofs.Ytnjeopgcpffkcaa

namespace Go.Proofs.Ytnjeopgcpffkcaa
set_option maxRecDepth 100000
open Go.RowKit Go.ChangeShapes Go.WideShapes Go.ChangeAt Go.Deep

section
variable {H : Type} {enc : TypeId × Value → H} {W : World} {b base : Nat} {sp : Nat → Bool} {hd : Bool}
theorem slice_cell {P : Program} {t el : TypeId} {fuel : Nat} {c : Value} {x : DataW H × List MemPlace} (hu : P.underlying t = some (.slice el)) (h : DataW.trod enc P W b sp hd fuel t [c] = some x) :
    ∃ a len cap, c = .slice a len cap ∧ DataW.Trod enc P W b sp hd t (.slice a len cap) x.1 x.2 := by
  have q := h
  rcases open_slice hu h with ⟨hcs, _⟩ | ⟨a, len, cap, m, k, D, Pl, hcs, _⟩
  · injection hcs with h1
    subst h1
    exact ⟨none, 0, 0, rfl, fuel, q⟩
  · injection hcs with h1
    subst h1
    exact ⟨some a, len, cap, rfl, fuel, q⟩
theorem str_bytes (s : ByteArray) : Value.string s = .string ⟨s.data.toList.toArray⟩ := by
  rw [Array.toArray_toList]
theorem msg_cells {fuel : Nat} {cs : List Value} {x : DataW H × List MemPlace} (h : DataW.trod enc Try.prog W b sp hd fuel 27 cs = some x) : ∃ (m : Mg) (e t : Row), cs = (m.raw e t).enc ∧ Lists W e t m ∧ m.Ok := by
  obtain ⟨xs, n, _, hx, hl, hxl, hf⟩ := DataW.trod_struct Try.underlying27 h
  have hc : Try.prog.cellsOf 27 = 11 := by kernel_rfl
  rw [hc] at hl
  have c1 : Try.prog.cellsOf 9 = 1 := by kernel_rfl
  have c2 : Try.prog.cellsOf 23 = 1 := by kernel_rfl
  have c3 : Try.prog.cellsOf 3 = 1 := by kernel_rfl
  have c4 : Try.prog.cellsOf 4 = 1 := by kernel_rfl
  have c5 : Try.prog.cellsOf 22 = 1 := by kernel_rfl
  have c6 : Try.prog.cellsOf 24 = 1 := by kernel_rfl
  have c7 : Try.prog.cellsOf 25 = 1 := by kernel_rfl
  have h0 := hf 0 _ rfl
  have h1 := hf 1 _ rfl
  have h2 := hf 2 _ rfl
  have h3 := hf 3 _ rfl
  have h4 := hf 4 _ rfl
  have h5 := hf 5 _ rfl
  have h6 := hf 6 _ rfl
  have h7 := hf 7 _ rfl
  have h8 := hf 8 _ rfl
  have h9 := hf 9 _ rfl
  have h10 := hf 10 _ rfl
  have hxl6 : xs.length = 11 := hxl
  match cs, hl with
  | [v0, v1, v2, v3, v4, v5, v6, v7, v8, v9, v10], _ =>
    match xs, hxl6 with
    | [y0, y1, y2, y3, y4, y5, y6, y7, y8, y9, y10], _ =>
      simp [c1, c2, c3, c4, c5, c6, c7] at h0 h1 h2 h3 h4 h5 h6 h7 h8 h9 h10
      obtain ⟨z0, e0, _, _⟩ := DataW.trod_int Try.underlying3 h0
      obtain ⟨z1, e1, _, _⟩ := DataW.trod_int Try.underlying3 h1
      obtain ⟨z2, e2, _, _⟩ := DataW.trod_int Try.underlying3 h2
      obtain ⟨z3, e3, _, _⟩ := DataW.trod_int Try.underlying22 h3
      obtain ⟨z4, e4, _, w4⟩ := DataW.trod_int Try.underlying23 h4
      obtain ⟨b5, e5, _⟩ := DataW.trod_bool Try.underlying4 h5
      obtain ⟨b6, e6, _⟩ := DataW.trod_bool Try.underlying4 h6
      obtain ⟨s7, e7, _, _⟩ := DataW.trod_string Try.underlying9 h7
      obtain ⟨s8, e8, _, _⟩ := DataW.trod_string Try.underlying9 h8
      obtain ⟨a9, n9, k9, e9, t9⟩ := slice_cell Try.underlying24 h9
      obtain ⟨a10, n10, k10, e10, t10⟩ := slice_cell Try.underlying25 h10
      obtain ⟨l9, r9, o9⟩ := Ent.opened_all t9
      obtain ⟨l10, r10, o10⟩ := Item.opened_all t10
      simp only [List.cons.injEq, and_true] at e0 e1 e2 e3 e4 e5 e6 e7 e8
      subst e0 e1 e2 e3 e4 e5 e6 e7 e8 e9 e10
      have hb := bounds_u64 w4
      obtain ⟨k, rfl⟩ := Int.eq_ofNat_of_zero_le hb.1
      refine ⟨⟨z0, z1, z2, z3, k, b5, b6, s7.data.toList, s8.data.toList, l9, l10⟩, ⟨a9, n9, k9⟩, ⟨a10, n10, k10⟩, ?_, ⟨r9, r10⟩, ⟨show k < 18446744073709551616 by omega, fun e he => (o9 e he).id_ok⟩⟩
      rw [str_bytes s7, str_bytes s8]
      rfl
theorem Mg.opened {v : Value} {d : DataW H} {p : List MemPlace} (hv : Value.okWide Try.prog W .any base 27 v) (h : DataW.Trod enc Try.prog W b sp hd 27 v d p) : ∃ (m : Mg) (e t : Row), v = (m.raw e t).val ∧ Lists W e t m ∧ m.Ok := by
  obtain ⟨cs, rfl, hsz⟩ := okWide_struct Try.underlying27 hv
  obtain ⟨fuel, hf⟩ := h
  obtain ⟨m, e, t, he, hl, ho⟩ := msg_cells hf
  refine ⟨m, e, t, ?_, hl, ho⟩
  show Value.agg cs = .agg (m.raw e t).enc.toArray
  congr 1
  apply Array.ext'
  simpa [Value.cells] using he
end
end Go.Proofs.Ytnjeopgcpffkcaa
