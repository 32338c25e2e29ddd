/- What the texts of layer 13's statements lean on of package token, as one thing to prove; the chapter's example (works). The statements' own Great. What the texts of layer 15's statements lean on of package gate, as one thing to prove; the chapter's example. -/
import Derived.Test.YtehalcopkjfdkaaDoorGt
import Derived.Test.YtehalcopkjfdkaaDoorGk
import Derived.Test.YtehalcopkjfdkaaDoorGf
import Derived.Test.YtehalcopkjfdkaaDoorGx
import Derived.Test.YtehalcopkjfdkaaDoorGz
namespace Go.Proofs.YtehalcopkjfdkaaDoor
set_option maxRecDepth 100000
open Go.RowKit

structure TokenIs : Prop where
  sign : ∀ (k : List UInt8) (a : Ent) (w : World) (_ : k.length ≤ 4000) (_ : a.name.length ≤ 1000) (_ : a.id < 18446744073709551616) (_ : Tab w),
    Calls Tryd.prog 20 #[.string ⟨k.toArray⟩, a.val] w fun e w' => e = .returned (signE k a).val ∧ Below w.heap.size w w'
  check : ∀ (k : List UInt8) (a : Ent) (w : World) (_ : k.length ≤ 4000) (_ : a.name.length ≤ 1000) (_ : a.tag.length ≤ 1000) (_ : a.id < 18446744073709551616) (_ : Tab w),
    Calls Tryd.prog 18 #[.string ⟨k.toArray⟩, a.val] w fun e w' => e = .returned (.bool (checkT k a)) ∧ Below w.heap.size w w'
  valid : ∀ (gi : Int) (gk : List UInt8) (a : Ent) (now : Int) (w : World) (_ : gk.length ≤ 4000) (_ : a.name.length ≤ 1000) (_ : a.tag.length ≤ 1000) (_ : a.id < 18446744073709551616) (_ : Tab w),
    Calls Tryd.prog 21 #[gateV gi gk, a.val, .int .i64 now] w fun e w' => e = .returned (.int .i64 (validX gi gk a now)) ∧ Below w.heap.size w w'

end Go.Proofs.YtehalcopkjfdkaaDoor

namespace Go.Proofs.YtehalcopkjfdkaaDoor
set_option maxRecDepth 100000
open Go.RowKit

def greatB (e : Ent) : Bool := decide (1000 < e.name.length) || decide (1000 < e.tag.length)

set_option maxHeartbeats 1000000 in
theorem great_any (a : Ent) (w : World) :
    Calls Tryd.prog 13 #[a.val] w fun e w' => e = .returned (.bool (greatB a)) ∧ Below w.heap.size w w' := by
  obtain ⟨n, i, f, u, x, t⟩ := a
  simp only [Ent.val, Ent.enc]
  obtain ⟨b1, h1⟩ : ∃ b, b = decide (1000 < n.length) := ⟨_, rfl⟩
  obtain ⟨b2, h2⟩ : ∃ b, b = decide (1000 < t.length) := ⟨_, rfl⟩
  have HB : Hid (greatB ⟨n, i, f, u, x, t⟩ = (b1 || b2)) := Lib.hid (by rw [greatB, ← h1, ← h2])
  have r1 : decide ((1000 : Int) < (n.length : Int)) = b1 := by rw [h1]; congr 1; apply propext; omega
  have r2 : decide ((1000 : Int) < (t.length : Int)) = b2 := by rw [h2]; congr 1; apply propext; omega
  have r3 := h1.symm
  have r4 := h2.symm
  clear h1 h2
  cases b1 <;> cases b2
  all_goals
    go_enter Tryd.func13, Tryd.ntmps13
    go_wp2
    go_ret
    exact ⟨by rw [HB.out]; rfl, (Below.refl _ _).alloc (Nat.le_refl _) _⟩
end Go.Proofs.YtehalcopkjfdkaaDoor

namespace Go.Proofs.YtehalcopkjfdkaaDoor
set_option maxRecDepth 100000
open Go.RowKit

structure GateIs : Prop where
  take : ∀ (g : Gate) (a : Ent) (now : Int) (w : World) (_ : g.Ok) (_ : g.key.length ≤ 4000) (_ : a.Ok) (_ : a.name.length ≤ 1000) (_ : a.tag.length ≤ 1000) (_ : Tab w),
    Calls Tryd.prog 8 #[g.val, a.val, .int .i64 now] w fun e w' => e = .returned (.tuple #[(takeP g a now).1.val, .int .i64 (takeP g a now).2]) ∧ Below w.heap.size w w'
  raise : ∀ (g y : Gate) (w : World) (_ : g.Ok) (_ : y.Ok) (_ : g.key.length ≤ 4000) (_ : y.key.length ≤ 4000) (_ : Tab w),
    Calls Tryd.prog 14 #[g.val, y.val] w fun e w' => e = .returned (.tuple #[(raiseG g y).1.val, .int .i64 (raiseG g y).2]) ∧ Below w.heap.size w w'
  holds : ∀ (p : Peer) (w : World) (_ : p.Ok) (_ : p.entry.name.length ≤ 1000) (_ : p.entry.tag.length ≤ 1000) (_ : Tab w),
    Calls Tryd.prog 16 #[p.val] w fun e w' => e = .returned (.bool (holdsP p)) ∧ Below w.heap.size w w'
  those : ∀ (g : Gate) (A : Option Addr) (m cap : Nat) (l : List Ent) (now : Int) (w : World) (_ : g.Ok) (_ : g.key.length ≤ 4000) (_ : ∀ e ∈ l, e.Ok ∧ e.name.length ≤ 1000 ∧ e.tag.length ≤ 1000) (_ : m ≤ 1000) (_ : RowsAt w (.slice A m cap) 6 (l.map Ent.enc)) (_ : Tab w),
    Calls Tryd.prog 11 #[g.val, .slice A m cap, .int .i64 now] w fun e w' => ∃ v, e = .returned v ∧ RowsAt w' v 8 ((thoseP g now l).map Peer.enc) ∧ Below w.heap.size w w'

/-- The example's entry. -/
def gaE : Ent := { Ent.zero with name := [110], till := 9 }
theorem int_ok (i : Int) (h : 0 ≤ i) (h2 : i ≤ 64) : -9223372036854775808 ≤ i ∧ i ≤ 9223372036854775807 := by omega
theorem gaE_sign (a : List UInt8) : (signE a gaE).Ok := ⟨show (0 : Nat) < 18446744073709551616 by decide, int_ok 0 (by decide) (by decide), int_ok 9 (by decide) (by decide), int_ok 0 (by decide) (by decide)⟩
theorem gaE_right (a : List UInt8) : entR (signE a gaE) = true := by
  have h1 : nameB (signE a gaE).name = true := show nameB [110] = true by decide
  have h2 := sign_tag a gaE
  simp only [entR, h1, h2]
  show (true && decide True && decide ((0 : Int) ≤ 0) && decide ((0 : Int) ≤ 9) && decide ((9 : Int) ≤ 1073741824) && decide ((0 : Int) ≤ 0) && decide ((0 : Int) ≤ 64)) = true
  decide
theorem gaE_take (a : List UInt8) : takeP ⟨0, a⟩ (signE a gaE) 4 = (⟨signE a gaE, 4, 0⟩, 0) := by
  have h : validX 0 a (signE a gaE) 4 = 0 := valid_of (gaE_right a) rfl (sign_checks _ _) (show (0 : Int) ≤ 4 by decide) (show (4 : Int) ≤ 9 by decide)
  exact if_pos h
theorem gaE_holds (a : List UInt8) : holdsP ⟨signE a gaE, 4, 0⟩ = true := by
  simp only [holdsP, gaE_right]
  show (true && decide ((0 : Int) ≤ 4) && decide ((4 : Int) ≤ 9) && decide ((0 : Int) = 0)) = true
  decide
theorem gate_ok (i : Int) (k : List UInt8) (h : 0 ≤ i) (h2 : i ≤ 64) : Gate.Ok ⟨i, k⟩ := ⟨int_ok i h h2⟩

set_option maxRecDepth 100000 in
set_option maxHeartbeats 2000000 in
theorem works15 (H : GateIs) (HC : ChainIs) (HT : TokenIs) (w : World) (T : Tab w) :
    Calls Tryd.prog 7 #[] w fun e w' => e = .returned (.bool true) ∧ Below w.heap.size w w' := by
  have T0 := Lib.hid T
  obtain ⟨a, b, ea, eb, la, lb, es, el⟩ := ex_key0
  have hap : leadsB 2 a 0 a = false := by rw [← ea]; exact ex_apart
  have C1 : Hid (∀ w1, Tab w1 → Calls Tryd.prog 19 #[.string ⟨seedN.toArray⟩, .int .i64 3, .int .i64 0] w1 fun e w' => e = .returned (.tuple #[.string ⟨a.toArray⟩, .int .i64 0]) ∧ Below w1.heap.size w1 w') := Lib.hid (fun w1 t => by have h := HC.key seedN 3 0 w1 (by decide) t; rw [ea] at h; exact h)
  have C2 : Hid (∀ w1, Tab w1 → Calls Tryd.prog 19 #[.string ⟨seedN.toArray⟩, .int .i64 3, .int .i64 2] w1 fun e w' => e = .returned (.tuple #[.string ⟨b.toArray⟩, .int .i64 0]) ∧ Below w1.heap.size w1 w') := Lib.hid (fun w1 t => by have h := HC.key seedN 3 2 w1 (by decide) t; rw [eb] at h; exact h)
  have C3 : Hid (∀ w1, Tab w1 → Calls Tryd.prog 14 #[Gate.val ⟨0, a⟩, Gate.val ⟨2, b⟩] w1 fun e w' => e = .returned (.tuple #[Gate.val ⟨2, b⟩, .int .i64 0]) ∧ Below w1.heap.size w1 w') := Lib.hid (fun w1 t => by
    have h := H.raise ⟨0, a⟩ ⟨2, b⟩ w1 (gate_ok _ _ (by decide) (by decide)) (gate_ok _ _ (by decide) (by decide)) (by show a.length ≤ 4000; omega) (by show b.length ≤ 4000; omega) t
    rw [show raiseG ⟨0, a⟩ ⟨2, b⟩ = (⟨2, b⟩, 0) by simp only [raiseG]; rw [if_neg (by decide), el]; rfl] at h
    exact h)
  have C4 : Hid (∀ w1, Tab w1 → Calls Tryd.prog 14 #[Gate.val ⟨0, a⟩, Gate.val ⟨2, a⟩] w1 fun e w' => e = .returned (.tuple #[Gate.val Gate.zero, .int .i64 36]) ∧ Below w1.heap.size w1 w') := Lib.hid (fun w1 t => by
    have h := H.raise ⟨0, a⟩ ⟨2, a⟩ w1 (gate_ok _ _ (by decide) (by decide)) (gate_ok _ _ (by decide) (by decide)) (by show a.length ≤ 4000; omega) (by show a.length ≤ 4000; omega) t
    rw [show raiseG ⟨0, a⟩ ⟨2, a⟩ = (Gate.zero, 36) by simp only [raiseG]; rw [if_neg (by decide), hap]; rfl] at h
    exact h)
  have C5 : Hid (∀ w1, Tab w1 → Calls Tryd.prog 20 #[.string ⟨a.toArray⟩, gaE.val] w1 fun e w' => e = .returned (signE a gaE).val ∧ Below w1.heap.size w1 w') := Lib.hid (fun w1 t => HT.sign a gaE w1 (by omega) (by decide) (by decide) t)
  have C6 : Hid (∀ w1, Tab w1 → Calls Tryd.prog 8 #[Gate.val ⟨0, a⟩, (signE a gaE).val, .int .i64 4] w1 fun e w' => e = .returned (.tuple #[Peer.val ⟨signE a gaE, 4, 0⟩, .int .i64 0]) ∧ Below w1.heap.size w1 w') := Lib.hid (fun w1 t => by
    have h := H.take ⟨0, a⟩ (signE a gaE) 4 w1 (gate_ok _ _ (by decide) (by decide)) (by show a.length ≤ 4000; omega) (gaE_sign a) (by show [110].length ≤ 1000; decide) (by rw [sign_tag]; decide) t
    rw [gaE_take] at h
    exact h)
  have C7 : Hid (∀ w1, Tab w1 → Calls Tryd.prog 16 #[Peer.val ⟨signE a gaE, 4, 0⟩] w1 fun e w' => e = .returned (.bool true) ∧ Below w1.heap.size w1 w') := Lib.hid (fun w1 t => by
    have h := H.holds ⟨signE a gaE, 4, 0⟩ w1 ⟨(gaE_sign a).id_ok, (gaE_sign a).since_ok, (gaE_sign a).till_ok, (gaE_sign a).index_ok, int_ok 4 (by decide) (by decide), int_ok 0 (by decide) (by decide)⟩ (by show [110].length ≤ 1000; decide) (by show (signE a gaE).tag.length ≤ 1000; rw [sign_tag]; decide) t
    rw [gaE_holds] at h
    exact h)
  generalize signE a gaE = E at *
  clear H HC HT T ea eb la lb es el hap
  go_enter Tryd.func7, Tryd.ntmps7
  go_wp2_with fail
  refine (C1.out w T0.out).mono ?_
  rintro e1 w1 ⟨rfl, b1⟩
  have B1 := Lib.hid b1
  clear b1 
  go_wp2_with fail
  refine (C2.out w1 (T0.out.below B1.out T0.out.pos)).mono ?_
  rintro e2 w2 ⟨rfl, b2⟩
  have B2 := Lib.hid (B1.out.trans (b2.mono B1.out.size))
  clear b2 B1
  go_wp2_with (first | (with_reducible refine wpList_build_rec rfl 23 _ rfl #[(1, .string ⟨a.toArray⟩)] (by with_unfolding_all exact rfl) (Gate.enc ⟨0, a⟩).toArray (by kernel_rfl) ?_) | (with_reducible refine wpList_build_rec rfl 23 _ rfl #[(0, .int .i64 2), (1, .string ⟨b.toArray⟩)] (by with_unfolding_all exact rfl) (Gate.enc ⟨2, b⟩).toArray (by kernel_rfl) ?_))
  refine (C3.out w2 (T0.out.below B2.out T0.out.pos)).mono ?_
  rintro e3 w3 ⟨rfl, b3⟩
  have B3 := Lib.hid (B2.out.trans (b3.mono B2.out.size))
  clear b3 B2
  go_wp2_with (refine wpList_alloc_row rfl 23 rfl Gate.zero.enc.toArray Gate.zero_is ?_)
  intro w4 b4 x4 z4
  obtain ⟨gX, hgX⟩ : ∃ g, g = w3.heap.size := ⟨_, rfl⟩
  have M_X := Lib.hid (show w.heap.size ≤ gX from by rw [hgX]; exact B3.out.size)
  have B4 := Lib.hid (B3.out.trans (b4.mono B3.out.size))
  rw [← hgX] at x4 ⊢
  have X4 : Hid (Gate.At w4 gX Gate.zero) := Lib.hid x4
  clear b4 x4 z4 hgX B3
  go_wp2_with (first | (with_reducible refine wpList_load_whole Gate.isRec rfl _ rfl gX (by with_unfolding_all exact rfl) _ _ (Gate.len _) X4.out ?_) | (with_reducible refine wpList_store_whole rfl 23 _ _ rfl gX (Gate.enc ⟨2, b⟩).toArray (by with_unfolding_all exact rfl) (by with_unfolding_all exact rfl) _ _ X4.out (Gate.size _) rfl (Gate.one _) ?_))
  intro w5 q5 x5 z5
  have X5 : Hid (Gate.At w5 gX ⟨2, b⟩) := Lib.hid x5
  have B5 := Lib.hid (B4.out.grown q5 B4.out.size (fun k hk => by injection hk with hk; have := M_X.out; omega))
  clear q5 x5 z5 X4 B4
  go_wp2_with (first | (with_reducible refine wpList_load_whole Gate.isRec rfl _ rfl gX (by with_unfolding_all exact rfl) _ _ (Gate.len _) X5.out ?_) | (first | (with_reducible refine wpList_build_rec rfl 23 _ rfl #[(1, .string ⟨a.toArray⟩)] (by with_unfolding_all exact rfl) (Gate.enc ⟨0, a⟩).toArray (by kernel_rfl) ?_) | (with_reducible refine wpList_build_rec rfl 23 _ rfl #[(0, .int .i64 2), (1, .string ⟨a.toArray⟩)] (by with_unfolding_all exact rfl) (Gate.enc ⟨2, a⟩).toArray (by kernel_rfl) ?_)))
  refine (C4.out w5 (T0.out.below B5.out T0.out.pos)).mono ?_
  rintro e6 w6 ⟨rfl, b6⟩
  have X6 : Hid (Gate.At w6 gX ⟨2, b⟩) := Lib.hid (Whole.below X5.out b6 X5.out.lt)
  have B6 := Lib.hid (B5.out.trans (b6.mono B5.out.size))
  clear b6 X5 B5
  go_wp2_with (first | (with_reducible refine wpList_load_whole Gate.isRec rfl _ rfl gX (by with_unfolding_all exact rfl) _ _ (Gate.len _) X6.out ?_) | (refine wpList_alloc_row rfl 23 rfl Gate.zero.enc.toArray Gate.zero_is ?_))
  intro w7 b7 x7 z7
  obtain ⟨gY, hgY⟩ : ∃ g, g = w6.heap.size := ⟨_, rfl⟩
  have N_X_Y := Lib.hid (show gX < gY from by rw [hgY]; exact X6.out.lt)
  have M_Y := Lib.hid (show w.heap.size ≤ gY from by rw [hgY]; exact B6.out.size)
  have X7 : Hid (Gate.At w7 gX ⟨2, b⟩) := Lib.hid (Whole.below X6.out b7 X6.out.lt)
  have B7 := Lib.hid (B6.out.trans (b7.mono B6.out.size))
  rw [← hgY] at x7 ⊢
  have Y7 : Hid (Gate.At w7 gY Gate.zero) := Lib.hid x7
  clear b7 x7 z7 hgY X6 B6
  go_wp2_with (first | (with_reducible refine wpList_load_whole Gate.isRec rfl _ rfl gX (by with_unfolding_all exact rfl) _ _ (Gate.len _) X7.out ?_) | (with_reducible refine wpList_load_whole Gate.isRec rfl _ rfl gY (by with_unfolding_all exact rfl) _ _ (Gate.len _) Y7.out ?_) | (with_reducible refine wpList_store_whole rfl 23 _ _ rfl gY Gate.zero.enc.toArray (by with_unfolding_all exact rfl) (by with_unfolding_all exact rfl) _ _ Y7.out (Gate.size _) rfl (Gate.one _) ?_))
  intro w8 q8 x8 z8
  have Y8 : Hid (Gate.At w8 gY Gate.zero) := Lib.hid x8
  have X8 : Hid (Gate.At w8 gX ⟨2, b⟩) := Lib.hid (grown_far X7.out q8 (by have := N_X_Y.out; omega))
  have B8 := Lib.hid (B7.out.grown q8 B7.out.size (fun k hk => by injection hk with hk; have := M_Y.out; omega))
  clear q8 x8 z8 Y7 X7 B7
  clear Y8
  go_wp2_with (first | (with_reducible refine wpList_load_whole Gate.isRec rfl _ rfl gX (by with_unfolding_all exact rfl) _ _ (Gate.len _) X8.out ?_) | (first | (with_reducible refine wpList_build_rec rfl 23 _ rfl #[(1, .string ⟨a.toArray⟩)] (by with_unfolding_all exact rfl) (Gate.enc ⟨0, a⟩).toArray (by kernel_rfl) ?_) | (with_reducible refine wpList_build_rec rfl 29 _ rfl #[(0, .string ⟨#[110]⟩), (3, .int .i64 9)] (by with_unfolding_all exact rfl) gaE.enc.toArray (by kernel_rfl) ?_)))
  refine (C5.out w8 (T0.out.below B8.out T0.out.pos)).mono ?_
  rintro e9 w9 ⟨rfl, b9⟩
  have X9 : Hid (Gate.At w9 gX ⟨2, b⟩) := Lib.hid (Whole.below X8.out b9 X8.out.lt)
  have B9 := Lib.hid (B8.out.trans (b9.mono B8.out.size))
  clear b9 X8 B8
  go_wp2_with (with_reducible refine wpList_load_whole Gate.isRec rfl _ rfl gX (by with_unfolding_all exact rfl) _ _ (Gate.len _) X9.out ?_)
  refine (C6.out w9 (T0.out.below B9.out T0.out.pos)).mono ?_
  rintro e10 w10 ⟨rfl, b10⟩
  have X10 : Hid (Gate.At w10 gX ⟨2, b⟩) := Lib.hid (Whole.below X9.out b10 X9.out.lt)
  have B10 := Lib.hid (B9.out.trans (b10.mono B9.out.size))
  clear b10 X9 B9
  go_wp2_with (first | (with_reducible refine wpList_load_whole Gate.isRec rfl _ rfl gX (by with_unfolding_all exact rfl) _ _ (Gate.len _) X10.out ?_) | (refine wpList_alloc_row rfl 31 rfl Peer.zero.enc.toArray Peer.zero_is ?_))
  intro w11 b11 x11 z11
  obtain ⟨gP, hgP⟩ : ∃ g, g = w10.heap.size := ⟨_, rfl⟩
  have N_X_P := Lib.hid (show gX < gP from by rw [hgP]; exact X10.out.lt)
  have M_P := Lib.hid (show w.heap.size ≤ gP from by rw [hgP]; exact B10.out.size)
  have X11 : Hid (Gate.At w11 gX ⟨2, b⟩) := Lib.hid (Whole.below X10.out b11 X10.out.lt)
  have B11 := Lib.hid (B10.out.trans (b11.mono B10.out.size))
  rw [← hgP] at x11 ⊢
  have P11 : Hid (Peer.At w11 gP Peer.zero) := Lib.hid x11
  clear b11 x11 z11 hgP X10 B10
  go_wp2_with (first | (with_reducible refine wpList_load_whole Gate.isRec rfl _ rfl gX (by with_unfolding_all exact rfl) _ _ (Gate.len _) X11.out ?_) | (with_reducible refine wpList_load_whole Peer.isRec rfl _ rfl gP (by with_unfolding_all exact rfl) _ _ (Peer.len _) P11.out ?_) | (with_reducible refine wpList_load_rec Ent.isRec rfl _ rfl gP 0 (by with_unfolding_all exact rfl) _ (Ent.len _) (Peer.At.part_entry P11.out) ?_) | (with_reducible refine wpList_store_whole rfl 31 _ _ rfl gP (Peer.enc ⟨E, 4, 0⟩).toArray (by with_unfolding_all exact rfl) (by with_unfolding_all exact rfl) _ _ P11.out (Peer.size _) rfl (Peer.one _) ?_))
  intro w12 q12 x12 z12
  have P12 : Hid (Peer.At w12 gP ⟨E, 4, 0⟩) := Lib.hid x12
  have X12 : Hid (Gate.At w12 gX ⟨2, b⟩) := Lib.hid (grown_far X11.out q12 (by have := N_X_P.out; omega))
  have B12 := Lib.hid (B11.out.grown q12 B11.out.size (fun k hk => by injection hk with hk; have := M_P.out; omega))
  clear q12 x12 z12 P11 X11 B11
  have c1 := Gate.At.at_index X12.out
  have c2 := Peer.At.at_since P12.out
  go_wp2_with (first | (with_reducible refine wpList_load_whole Gate.isRec rfl _ rfl gX (by with_unfolding_all exact rfl) _ _ (Gate.len _) X12.out ?_) | (with_reducible refine wpList_load_whole Peer.isRec rfl _ rfl gP (by with_unfolding_all exact rfl) _ _ (Peer.len _) P12.out ?_) | (with_reducible refine wpList_load_rec Ent.isRec rfl _ rfl gP 0 (by with_unfolding_all exact rfl) _ (Ent.len _) (Peer.At.part_entry P12.out) ?_) | (with_reducible refine wpList_load_whole_w Peer.isRec (by kernel_rfl) _ rfl gP (by with_unfolding_all exact rfl) _ _ (Peer.len _) P12.out ?_))
  refine (C7.out w12 (T0.out.below B12.out T0.out.pos)).mono ?_
  rintro e13 w13 ⟨rfl, b13⟩
  have X13 : Hid (Gate.At w13 gX ⟨2, b⟩) := Lib.hid (Whole.below X12.out b13 X12.out.lt)
  have P13 : Hid (Peer.At w13 gP ⟨E, 4, 0⟩) := Lib.hid (Whole.below P12.out b13 P12.out.lt)
  have B13 := Lib.hid (B12.out.trans (b13.mono B12.out.size))
  clear b13 X12 P12 B12
  go_wp2
  go_ret
  exact ⟨rfl, B13.out⟩
end Go.Proofs.YtehalcopkjfdkaaDoor
