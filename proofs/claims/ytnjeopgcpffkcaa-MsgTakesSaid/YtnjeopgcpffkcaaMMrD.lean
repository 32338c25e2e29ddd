/- The document's reader of messages: truth, list, the fields that are no lists. (Written by tools/mkmrtake.py.) -/
import Derived.Test.YtnjeopgcpffkcaaGy
import Derived.Test.YtnjeopgcpffkcaaMRecTt
import Derived.Test.YtnjeopgcpffkcaaGt
import Derived.Test.YtnjeopgcpffkcaaMMrL
namespace Go.Proofs.Ytnjeopgcpffkcaa
set_option maxRecDepth 100000
open Go.RowKit

/-- The blocks that it is read with: T's, the reader's, the result's; and the bytes. -/
structure Ttb (w0 : World) (gT gQ gO base : Nat) (A : Option Addr) (b : List UInt8) : Prop where
  t : gT < base
  q : gQ < base
  ne : gT ≠ gQ
  t0 : w0.heap.size ≤ gT
  q0 : w0.heap.size ≤ gQ
  o : gO ≠ gT ∧ gO ≠ gQ
  ob : gO < base
  far : b ≠ [] → ∀ ad, A = some ad → ad.block < w0.heap.size
  small : b.length ≤ 9000
/-- So far it was read. -/
structure Ttz (w0 : World) (gT gQ gO base : Nat) (A : Option Addr) (cap : Nat) (b : List UInt8) (T : Tk) (e t : Row) (w : World) : Prop where
  tt : Tt.At w gT ⟨gQ, T.m.raw e t, T.bad, T.big⟩
  lists : OwnLists w base e t T.m
  rd : RfS w gQ A cap b T.r
  res : Mr.At w gO Mr.zero
  low : Below w0.heap.size w0 w
  base : base ≤ w.heap.size
  apt : Apt e.v t.v
def Ttk (w0 : World) (gT gQ gO base : Nat) (A : Option Addr) (cap : Nat) (b : List UInt8) (T : Tk) (w : World) : Prop := ∃ e t, Ttz w0 gT gQ gO base A cap b T e t w
section
variable {w0 w w' : World} {gT gQ gO base cap : Nat} {A : Option Addr} {b : List UInt8} {T T' : Tk} {e t e' t' : Row}
/-- The reader has read. -/
theorem Ttz.read (hb : Ttb w0 gT gQ gO base A b) (h : Ttz w0 gT gQ gO base A cap b T e t w) {s : RS} (hr : RfS w' gQ A cap b s) (q : w.grownBy w' (some gQ)) : Ttz w0 gT gQ gO base A cap b ⟨s, T.m, T.bad, T.big⟩ e t w' where
  tt := grown_far h.tt q hb.ne
  lists := h.lists.far q hb.q
  rd := hr
  res := grown_far h.res q hb.o.2
  low := h.low.grown q h.low.size (fun k hk => by injection hk with hk; have := hb.q0; omega)
  base := Nat.le_trans h.base q.size
  apt := h.apt
/-- T is written. -/
theorem Ttz.put (hb : Ttb w0 gT gQ gO base A b) (ha : Apt e'.v t'.v) (h : Ttz w0 gT gQ gO base A cap b T e t w) (q : w.grownBy w' (some gT)) (x : Tt.At w' gT ⟨gQ, T'.m.raw e' t', T'.bad, T'.big⟩) (ho : OwnLists w base e' t' T'.m) (hr : T'.r = T.r) : Ttz w0 gT gQ gO base A cap b T' e' t' w' where
  tt := x
  lists := ho.far q hb.t
  rd := by rw [hr]; exact h.rd.apart q hb.ne.symm (fun hne ad hA => by have := hb.far hne ad hA; have := hb.t0; omega)
  res := grown_far h.res q hb.o.1
  low := h.low.grown q h.low.size (fun k hk => by injection hk with hk; have := hb.t0; omega)
  base := Nat.le_trans h.base q.size
  apt := ha
theorem Ttz.below (h : Ttz w0 gT gQ gO base A cap b T e t w) (k : Below w.heap.size w w') : Ttz w0 gT gQ gO base A cap b T e t w' where
  tt := Whole.below h.tt k h.tt.lt
  lists := h.lists.below k
  rd := h.rd.belowR k
  res := Whole.below h.res k h.res.lt
  low := h.low.trans (k.mono h.low.size)
  base := Nat.le_trans h.base k.size
  apt := h.apt
/-- A row of its own grows: all but that row stays. -/
theorem Ttz.grows (hb : Ttb w0 gT gQ gO base A b) (h : Ttz w0 gT gQ gO base A cap b T e t w) {row : Option Nat} (q : w.grownBy w' row) (hr : ∀ g, row = some g → base ≤ g) :
    Tt.At w' gT ⟨gQ, T.m.raw e t, T.bad, T.big⟩ ∧ RfS w' gQ A cap b T.r ∧ Mr.At w' gO Mr.zero ∧ Below w0.heap.size w0 w' ∧ base ≤ w'.heap.size := by
  refine ⟨h.tt.grown_own q (fun e => by have := hr _ e; have := hb.t; omega), ?_, h.res.grown_own q (fun e => by have := hr _ e; have := hb.ob; omega), h.low.grown q h.low.size (fun k hk => by have := hr k hk; have := hb.t; have := hb.t0; omega), Nat.le_trans h.base q.size⟩
  cases row with
  | none => exact h.rd.belowR ⟨q.os, q.tape, q.output, q.size, fun i hi => q.block i hi (by simp)⟩
  | some g => exact h.rd.apart q (by have := hr g rfl; have := hb.q; omega) (fun hne ad hA => by have := hb.far hne ad hA; have := hr g rfl; have := hb.t; have := hb.t0; omega)
end

set_option maxHeartbeats 1000000 in
theorem truth_any (w0 : World) (gT gQ gO base : Nat) (A : Option Addr) (cap : Nat) (b : List UInt8) (hb : Ttb w0 gT gQ gO base A b) (T : Tk) (e t : Row) (w : World) (h : Ttz w0 gT gQ gO base A cap b T e t w) :
    Calls Try.prog 77 #[.pointer (some ⟨gT, 0, none⟩)] w fun x w' => x = .returned (.bool (truthB T.r)) ∧ Ttz w0 gT gQ gO base A cap b ⟨rawS T.r 1, T.m, T.bad || truthX T.r, T.big⟩ e t w' ∧ Keeps (RF gT gQ) w w' := by
  have H := Lib.hid h
  have HK := Lib.hid hb
  have C := Lib.hid (rfNum gQ 1 A cap b T.r w h.rd hb.small (by decide) (by decide))
  have c0 : w.cell? ⟨gT, 0, none⟩ = some (.pointer (some ⟨gQ, 0, none⟩)) := h.tt.at_ 0
  obtain ⟨n, hn⟩ : ∃ n, n = numO T.r 1 := ⟨_, rfl⟩
  rw [← hn] at C
  obtain ⟨q1, hq1⟩ : ∃ q, q = truthB T.r := ⟨_, rfl⟩
  have d1 : ((n : Int) == 1) = q1 := by rw [hq1, truthB, ← hn, Bool.eq_iff_iff]; simp; omega
  rw [← hq1]
  by_cases hm : 1 < n
  · have HX : Hid ((T.bad || truthX T.r) = true) := Lib.hid (by rw [truthX, ← hn, decide_eq_true hm, Bool.or_true])
    have d : decide ((1 : Int) < (n : Int)) = true := by simp; omega
    have d2 : decide (1 < n) = true := by simpa using hm
    rw [HX.out]
    clear h hb hn hq1
    go_enter Try.func77, Try.ntmps77
    go_wp2_with fail
    refine C.out.mono ?_
    rintro x w1 ⟨rfl, hr, hg⟩
    have H1 := Lib.hid (H.out.read HK.out hr hg)
    have K1 : Hid (Keeps (RF gT gQ) w w1) := Lib.hid (keeps_read hg)
    clear hr hg C H c0
    go_wp2_with (with_reducible refine wpList_put_cell 4 ⟨by kernel_rfl, by kernel_rfl⟩ rfl _ _ rfl gT 12 (by with_unfolding_all exact rfl) (.bool true) (by with_unfolding_all exact rfl) (by with_unfolding_all exact rfl) (by with_unfolding_all exact rfl) _ _ H1.out.tt _ (by with_unfolding_all exact rfl) ?_)
    intro w2 q x z
    have H2 : Hid (Ttz w0 gT gQ gO base A cap b ⟨rawS T.r 1, T.m, true, T.big⟩ e t w2) := Lib.hid (H1.out.put (ha := H1.out.apt) (T' := ⟨rawS T.r 1, T.m, true, T.big⟩) HK.out q x H1.out.lists rfl)
    have K2 := Lib.hid (K1.out.trans (keeps_rdr (gP := gQ) q))
    clear q x z H1 K1
    go_wp2
    go_ret
    exact ⟨rfl, H2.out, K2.out⟩
  · have HX : Hid ((T.bad || truthX T.r) = T.bad) := Lib.hid (by rw [truthX, ← hn, decide_eq_false hm, Bool.or_false])
    have d : decide ((1 : Int) < (n : Int)) = false := by simp; omega
    have d2 : decide (1 < n) = false := by simpa using hm
    rw [HX.out]
    clear h hb hn hq1
    go_enter Try.func77, Try.ntmps77
    go_wp2_with fail
    refine C.out.mono ?_
    rintro x w1 ⟨rfl, hr, hg⟩
    have H1 := Lib.hid (H.out.read HK.out hr hg)
    have K1 : Hid (Keeps (RF gT gQ) w w1) := Lib.hid (keeps_read hg)
    clear hr hg C H c0
    go_wp2
    go_ret
    exact ⟨rfl, H1.out, K1.out⟩

set_option maxHeartbeats 1000000 in
theorem list_any (w0 : World) (gT gQ gO base : Nat) (A : Option Addr) (cap : Nat) (b : List UInt8) (hb : Ttb w0 gT gQ gO base A b) (T : Tk) (e t : Row) (w : World) (h : Ttz w0 gT gQ gO base A cap b T e t w) (most : Nat) :
    Calls Try.prog 79 #[.pointer (some ⟨gT, 0, none⟩), .int .i64 (most : Int)] w fun x w' => x = .returned (.int .i64 (manyN T.r most : Int)) ∧ Ttz w0 gT gQ gO base A cap b ⟨rawS T.r 1, T.m, T.bad, T.big || manyX T.r most⟩ e t w' := by
  have H := Lib.hid h
  have HK := Lib.hid hb
  have C := Lib.hid (rfNum gQ 1 A cap b T.r w h.rd hb.small (by decide) (by decide))
  have c0 : w.cell? ⟨gT, 0, none⟩ = some (.pointer (some ⟨gQ, 0, none⟩)) := h.tt.at_ 0
  have hlt := numO_lt T.r 1
  obtain ⟨n, hn⟩ : ∃ n, n = numO T.r 1 := ⟨_, rfl⟩
  rw [← hn] at C hlt
  have r1 : IntKind.i64.wrap (n : Int) = (n : Int) := by rw [IntWalk.i64_in _ (by omega)]
  by_cases hm : most < n
  · have HN : Hid (manyN T.r most = 0) := Lib.hid (by rw [manyN, ← hn, if_pos hm])
    have HX : Hid ((T.big || manyX T.r most) = true) := Lib.hid (by rw [manyX, ← hn, decide_eq_true hm, Bool.or_true])
    have d : decide ((most : Int) < (n : Int)) = true := by simp; omega
    have d2 : decide (most < n) = true := by simpa using hm
    rw [HX.out, HN.out]
    clear h hb hn hlt
    go_enter Try.func79, Try.ntmps79
    go_wp2_with fail
    refine C.out.mono ?_
    rintro x w1 ⟨rfl, hr, hg⟩
    have H1 := Lib.hid (H.out.read HK.out hr hg)
    clear hr hg C H c0
    go_wp2_with (with_reducible refine wpList_put_cell 4 ⟨by kernel_rfl, by kernel_rfl⟩ rfl _ _ rfl gT 13 (by with_unfolding_all exact rfl) (.bool true) (by with_unfolding_all exact rfl) (by with_unfolding_all exact rfl) (by with_unfolding_all exact rfl) _ _ H1.out.tt _ (by with_unfolding_all exact rfl) ?_)
    intro w2 q x z
    have H2 : Hid (Ttz w0 gT gQ gO base A cap b ⟨rawS T.r 1, T.m, T.bad, true⟩ e t w2) := Lib.hid (H1.out.put (ha := H1.out.apt) (T' := ⟨rawS T.r 1, T.m, T.bad, true⟩) HK.out q x H1.out.lists rfl)
    clear q x z H1
    go_wp2
    go_ret
    exact ⟨rfl, H2.out⟩
  · have HN : Hid (manyN T.r most = n) := Lib.hid (by rw [manyN, ← hn, if_neg hm])
    have HX : Hid ((T.big || manyX T.r most) = T.big) := Lib.hid (by rw [manyX, ← hn, decide_eq_false hm, Bool.or_false])
    have d : decide ((most : Int) < (n : Int)) = false := by simp; omega
    have d2 : decide (most < n) = false := by simpa using hm
    rw [HX.out, HN.out]
    clear h hb hn hlt
    go_enter Try.func79, Try.ntmps79
    go_wp2_with fail
    refine C.out.mono ?_
    rintro x w1 ⟨rfl, hr, hg⟩
    have H1 := Lib.hid (H.out.read HK.out hr hg)
    clear hr hg C H c0
    go_wp2
    go_ret
    exact ⟨rfl, H1.out⟩

set_option maxHeartbeats 2000000 in
theorem refTake_0 (w0 : World) (gT gQ gO base : Nat) (A : Option Addr) (cap : Nat) (b : List UInt8) (hb : Ttb w0 gT gQ gO base A b) (T : Tk) (w : World) (hh : Ttk w0 gT gQ gO base A cap b T w) :
    Calls Try.prog 52 #[.pointer (some ⟨gT, 0, none⟩), .int .u8 114] w fun x w' => x = .returned (.tuple #[]) ∧ Ttk w0 gT gQ gO base A cap b (takeF T 0) w' := by
  obtain ⟨e, t, h⟩ := hh
  have H := Lib.hid h
  have HK := Lib.hid hb
  have C := Lib.hid (rfNum gQ 2 A cap b T.r w h.rd hb.small (by decide) (by decide))
  have rz := numO_i64 T.r 2 (by decide)
  have c0 : w.cell? ⟨gT, 0, none⟩ = some (.pointer (some ⟨gQ, 0, none⟩)) := h.tt.at_ 0
  clear h hb
  go_enter Try.func52, Try.ntmps52
  go_wp2_with fail
  refine C.out.mono ?_
  rintro x w1 ⟨rfl, hr, hg⟩
  have H1 := Lib.hid (H.out.read HK.out hr hg)
  clear hr hg C H c0
  go_wp2_with (with_reducible refine wpList_put_cell 22 ⟨by kernel_rfl, by kernel_rfl⟩ rfl _ _ rfl gT 4 (by with_unfolding_all exact rfl) (.int .i64 (numO T.r 2 : Int)) (by with_unfolding_all exact rfl) (by with_unfolding_all exact rfl) (by with_unfolding_all exact rfl) _ _ H1.out.tt _ (by with_unfolding_all exact rfl) ?_)
  intro w2 q x z
  have H2 : Hid (Ttk w0 gT gQ gO base A cap b (takeF T 0) w2) := Lib.hid ⟨e, t, H1.out.put (ha := H1.out.apt) (T' := takeF T 0) HK.out q x ⟨H1.out.lists.es, H1.out.lists.its⟩ rfl⟩
  clear q x z H1
  go_wp2
  go_end0
  exact ⟨rfl, H2.out⟩

set_option maxHeartbeats 2000000 in
theorem refTake_1 (w0 : World) (gT gQ gO base : Nat) (A : Option Addr) (cap : Nat) (b : List UInt8) (hb : Ttb w0 gT gQ gO base A b) (T : Tk) (w : World) (hh : Ttk w0 gT gQ gO base A cap b T w) :
    Calls Try.prog 52 #[.pointer (some ⟨gT, 0, none⟩), .int .u8 104] w fun x w' => x = .returned (.tuple #[]) ∧ Ttk w0 gT gQ gO base A cap b (takeF T 1) w' := by
  obtain ⟨e, t, h⟩ := hh
  have H := Lib.hid h
  have HK := Lib.hid hb
  have C := Lib.hid (truth_any w0 gT gQ gO base A cap b hb T e t w h)
  
  have c0 : w.cell? ⟨gT, 0, none⟩ = some (.pointer (some ⟨gQ, 0, none⟩)) := h.tt.at_ 0
  clear h hb
  go_enter Try.func52, Try.ntmps52
  go_wp2_with fail
  refine C.out.mono ?_
  rintro x w1 ⟨rfl, hr, -⟩
  have H1 := Lib.hid hr
  clear hr C H c0
  go_wp2_with (with_reducible refine wpList_put_cell 4 ⟨by kernel_rfl, by kernel_rfl⟩ rfl _ _ rfl gT 6 (by with_unfolding_all exact rfl) (.bool (truthB T.r)) (by with_unfolding_all exact rfl) (by with_unfolding_all exact rfl) (by with_unfolding_all exact rfl) _ _ H1.out.tt _ (by with_unfolding_all exact rfl) ?_)
  intro w2 q x z
  have H2 : Hid (Ttk w0 gT gQ gO base A cap b (takeF T 1) w2) := Lib.hid ⟨e, t, H1.out.put (ha := H1.out.apt) (T' := takeF T 1) HK.out q x ⟨H1.out.lists.es, H1.out.lists.its⟩ rfl⟩
  clear q x z H1
  go_wp2
  go_end0
  exact ⟨rfl, H2.out⟩

set_option maxHeartbeats 2000000 in
theorem refTake_2 (w0 : World) (gT gQ gO base : Nat) (A : Option Addr) (cap : Nat) (b : List UInt8) (hb : Ttb w0 gT gQ gO base A b) (T : Tk) (w : World) (hh : Ttk w0 gT gQ gO base A cap b T w) :
    Calls Try.prog 52 #[.pointer (some ⟨gT, 0, none⟩), .int .u8 103] w fun x w' => x = .returned (.tuple #[]) ∧ Ttk w0 gT gQ gO base A cap b (takeF T 2) w' := by
  obtain ⟨e, t, h⟩ := hh
  have H := Lib.hid h
  have HK := Lib.hid hb
  have C := Lib.hid (truth_any w0 gT gQ gO base A cap b hb T e t w h)
  
  have c0 : w.cell? ⟨gT, 0, none⟩ = some (.pointer (some ⟨gQ, 0, none⟩)) := h.tt.at_ 0
  clear h hb
  go_enter Try.func52, Try.ntmps52
  go_wp2_with fail
  refine C.out.mono ?_
  rintro x w1 ⟨rfl, hr, -⟩
  have H1 := Lib.hid hr
  clear hr C H c0
  go_wp2_with (with_reducible refine wpList_put_cell 4 ⟨by kernel_rfl, by kernel_rfl⟩ rfl _ _ rfl gT 7 (by with_unfolding_all exact rfl) (.bool (truthB T.r)) (by with_unfolding_all exact rfl) (by with_unfolding_all exact rfl) (by with_unfolding_all exact rfl) _ _ H1.out.tt _ (by with_unfolding_all exact rfl) ?_)
  intro w2 q x z
  have H2 : Hid (Ttk w0 gT gQ gO base A cap b (takeF T 2) w2) := Lib.hid ⟨e, t, H1.out.put (ha := H1.out.apt) (T' := takeF T 2) HK.out q x ⟨H1.out.lists.es, H1.out.lists.its⟩ rfl⟩
  clear q x z H1
  go_wp2
  go_end0
  exact ⟨rfl, H2.out⟩

set_option maxHeartbeats 2000000 in
theorem refTake_3 (w0 : World) (gT gQ gO base : Nat) (A : Option Addr) (cap : Nat) (b : List UInt8) (hb : Ttb w0 gT gQ gO base A b) (T : Tk) (w : World) (hh : Ttk w0 gT gQ gO base A cap b T w) :
    Calls Try.prog 52 #[.pointer (some ⟨gT, 0, none⟩), .int .u8 105] w fun x w' => x = .returned (.tuple #[]) ∧ Ttk w0 gT gQ gO base A cap b (takeF T 3) w' := by
  obtain ⟨e, t, h⟩ := hh
  have H := Lib.hid h
  have HK := Lib.hid hb
  have C := Lib.hid (rfNum gQ 8 A cap b T.r w h.rd hb.small (by decide) (by decide))
  
  have c0 : w.cell? ⟨gT, 0, none⟩ = some (.pointer (some ⟨gQ, 0, none⟩)) := h.tt.at_ 0
  clear h hb
  go_enter Try.func52, Try.ntmps52
  go_wp2_with fail
  refine C.out.mono ?_
  rintro x w1 ⟨rfl, hr, hg⟩
  have H1 := Lib.hid (H.out.read HK.out hr hg)
  clear hr hg C H c0
  go_wp2_with (with_reducible refine wpList_put_cell 23 ⟨by kernel_rfl, by kernel_rfl⟩ rfl _ _ rfl gT 5 (by with_unfolding_all exact rfl) (.int .u64 (numO T.r 8 : Int)) (by with_unfolding_all exact rfl) (by with_unfolding_all exact rfl) (by with_unfolding_all exact rfl) _ _ H1.out.tt _ (by with_unfolding_all exact rfl) ?_)
  intro w2 q x z
  have H2 : Hid (Ttk w0 gT gQ gO base A cap b (takeF T 3) w2) := Lib.hid ⟨e, t, H1.out.put (ha := H1.out.apt) (T' := takeF T 3) HK.out q x ⟨H1.out.lists.es, H1.out.lists.its⟩ rfl⟩
  clear q x z H1
  go_wp2
  go_end0
  exact ⟨rfl, H2.out⟩

set_option maxHeartbeats 2000000 in
theorem refTake_4 (w0 : World) (gT gQ gO base : Nat) (A : Option Addr) (cap : Nat) (b : List UInt8) (hb : Ttb w0 gT gQ gO base A b) (T : Tk) (w : World) (hh : Ttk w0 gT gQ gO base A cap b T w) :
    Calls Try.prog 52 #[.pointer (some ⟨gT, 0, none⟩), .int .u8 110] w fun x w' => x = .returned (.tuple #[]) ∧ Ttk w0 gT gQ gO base A cap b (takeF T 4) w' := by
  obtain ⟨e, t, h⟩ := hh
  have H := Lib.hid h
  have HK := Lib.hid hb
  have C := Lib.hid (rfNum gQ 4 A cap b T.r w h.rd hb.small (by decide) (by decide))
  have rz := numO_i64 T.r 4 (by decide)
  have c0 : w.cell? ⟨gT, 0, none⟩ = some (.pointer (some ⟨gQ, 0, none⟩)) := h.tt.at_ 0
  clear h hb
  go_enter Try.func52, Try.ntmps52
  go_wp2_with fail
  refine C.out.mono ?_
  rintro x w1 ⟨rfl, hr, hg⟩
  have H1 := Lib.hid (H.out.read HK.out hr hg)
  clear hr hg C H c0
  go_wp2_with (with_reducible refine wpList_put_cell 3 ⟨by kernel_rfl, by kernel_rfl⟩ rfl _ _ rfl gT 3 (by with_unfolding_all exact rfl) (.int .i64 (numO T.r 4 : Int)) (by with_unfolding_all exact rfl) (by with_unfolding_all exact rfl) (by with_unfolding_all exact rfl) _ _ H1.out.tt _ (by with_unfolding_all exact rfl) ?_)
  intro w2 q x z
  have H2 : Hid (Ttk w0 gT gQ gO base A cap b (takeF T 4) w2) := Lib.hid ⟨e, t, H1.out.put (ha := H1.out.apt) (T' := takeF T 4) HK.out q x ⟨H1.out.lists.es, H1.out.lists.its⟩ rfl⟩
  clear q x z H1
  go_wp2
  go_end0
  exact ⟨rfl, H2.out⟩

set_option maxHeartbeats 2000000 in
theorem refTake_5 (w0 : World) (gT gQ gO base : Nat) (A : Option Addr) (cap : Nat) (b : List UInt8) (hb : Ttb w0 gT gQ gO base A b) (T : Tk) (w : World) (hh : Ttk w0 gT gQ gO base A cap b T w) :
    Calls Try.prog 52 #[.pointer (some ⟨gT, 0, none⟩), .int .u8 107] w fun x w' => x = .returned (.tuple #[]) ∧ Ttk w0 gT gQ gO base A cap b (takeF T 5) w' := by
  obtain ⟨e, t, h⟩ := hh
  have H := Lib.hid h
  have HK := Lib.hid hb
  have C := Lib.hid (rfText gQ 24 A cap b T.r w h.rd hb.small)
  
  have c0 : w.cell? ⟨gT, 0, none⟩ = some (.pointer (some ⟨gQ, 0, none⟩)) := h.tt.at_ 0
  clear h hb
  go_enter Try.func52, Try.ntmps52
  go_wp2_with fail
  refine C.out.mono ?_
  rintro x w1 ⟨rfl, hr, hg⟩
  have H1 := Lib.hid (H.out.read HK.out hr hg)
  clear hr hg C H c0
  go_wp2_with (with_reducible refine wpList_put_cell 9 ⟨by kernel_rfl, by kernel_rfl⟩ rfl _ _ rfl gT 8 (by with_unfolding_all exact rfl) (.string ⟨(textO T.r 24).toArray⟩) (by with_unfolding_all exact rfl) (by with_unfolding_all exact rfl) (by with_unfolding_all exact rfl) _ _ H1.out.tt _ (by with_unfolding_all exact rfl) ?_)
  intro w2 q x z
  have H2 : Hid (Ttk w0 gT gQ gO base A cap b (takeF T 5) w2) := Lib.hid ⟨e, t, H1.out.put (ha := H1.out.apt) (T' := takeF T 5) HK.out q x ⟨H1.out.lists.es, H1.out.lists.its⟩ rfl⟩
  clear q x z H1
  go_wp2
  go_end0
  exact ⟨rfl, H2.out⟩

set_option maxHeartbeats 2000000 in
theorem refTake_6 (w0 : World) (gT gQ gO base : Nat) (A : Option Addr) (cap : Nat) (b : List UInt8) (hb : Ttb w0 gT gQ gO base A b) (T : Tk) (w : World) (hh : Ttk w0 gT gQ gO base A cap b T w) :
    Calls Try.prog 52 #[.pointer (some ⟨gT, 0, none⟩), .int .u8 118] w fun x w' => x = .returned (.tuple #[]) ∧ Ttk w0 gT gQ gO base A cap b (takeF T 6) w' := by
  obtain ⟨e, t, h⟩ := hh
  have H := Lib.hid h
  have HK := Lib.hid hb
  have C := Lib.hid (rfText gQ 32 A cap b T.r w h.rd hb.small)
  
  have c0 : w.cell? ⟨gT, 0, none⟩ = some (.pointer (some ⟨gQ, 0, none⟩)) := h.tt.at_ 0
  clear h hb
  go_enter Try.func52, Try.ntmps52
  go_wp2_with fail
  refine C.out.mono ?_
  rintro x w1 ⟨rfl, hr, hg⟩
  have H1 := Lib.hid (H.out.read HK.out hr hg)
  clear hr hg C H c0
  go_wp2_with (with_reducible refine wpList_put_cell 9 ⟨by kernel_rfl, by kernel_rfl⟩ rfl _ _ rfl gT 9 (by with_unfolding_all exact rfl) (.string ⟨(textO T.r 32).toArray⟩) (by with_unfolding_all exact rfl) (by with_unfolding_all exact rfl) (by with_unfolding_all exact rfl) _ _ H1.out.tt _ (by with_unfolding_all exact rfl) ?_)
  intro w2 q x z
  have H2 : Hid (Ttk w0 gT gQ gO base A cap b (takeF T 6) w2) := Lib.hid ⟨e, t, H1.out.put (ha := H1.out.apt) (T' := takeF T 6) HK.out q x ⟨H1.out.lists.es, H1.out.lists.its⟩ rfl⟩
  clear q x z H1
  go_wp2
  go_end0
  exact ⟨rfl, H2.out⟩
end Go.Proofs.Ytnjeopgcpffkcaa
