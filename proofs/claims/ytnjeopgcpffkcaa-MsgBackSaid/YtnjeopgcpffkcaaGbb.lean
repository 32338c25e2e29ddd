/- Package msg: Take. -/
import Derived.Test.YtnjeopgcpffkcaaGy
import Derived.Test.YtnjeopgcpffkcaaGba
namespace Go.Proofs.Ytnjeopgcpffkcaa
set_option maxRecDepth 100000
open Go.RowKit

theorem enter_take : ∀ args w, (callFunc 47 args).run Try.prog w = .ok (.enter 47 args) w := by
  intro args w
  have hn : decide (Try.f47.name = "runtime.NumGoroutine") = false := by kernel_rfl
  have hb : Try.f47.body.isNone = false := by kernel_rfl
  exact enter_of Try.func47 hn hb args w
theorem takeT_snoc (T : Tk) (l : List Nat) (f : Nat) : takeT T (l ++ [f]) = takeF (takeT T l) f := by simp [takeT]

set_option maxHeartbeats 1000000 in
theorem take1_any (w0 : World) (gR gP gM base gV gO : Nat) (hb : Tkb w0 gR gP gM base gV gO) (T : Tk) (k : Int) (fs : List Nat) (f : Nat) (w : World) (hs : Step k fs f) (h : Tks w0 gR gP gM base gV gO (takeT T fs) w) :
    Calls Try.prog 47 #[.int .i64 (f : Int), .pointer (some ⟨gV, 0, none⟩), .pointer (some ⟨gM, 0, none⟩)] w fun x w' => x = .returned (.tuple #[]) ∧ Tks w0 gR gP gM base gV gO (takeT T (fs ++ [f])) w' := by
  have C := Lib.hid (take_any f (step_lt hs) w0 gR gP gM base gV gO hb (takeT T fs) w h)
  obtain ⟨e, t, -, -, -, -, -, hv, -⟩ := h
  have c0 : w.cell? ⟨gV, 0, none⟩ = some (.pointer (some ⟨gR, 0, none⟩)) := hv.at_ 0
  rw [takeT_snoc]
  clear hv
  go_enter Try.func47, Try.ntmps47
  go_wp2_with fail
  refine C.out.mono ?_
  rintro x w1 ⟨rfl, h1⟩
  have H1 := Lib.hid h1
  clear h1
  go_wp2
  go_end0
  exact ⟨rfl, H1.out⟩

theorem entsT_len (n : Nat) : ∀ (r : RS) (x : Bool) (l : List Ent), (entsT n r x l).2.2.length = l.length + n := by
  induction n with
  | zero => intro r x l; rfl
  | succ n ih => intro r x l; rw [entsT, ih, List.length_append, List.length_singleton]; omega
theorem itemsT_len (n : Nat) : ∀ (r : RS) (x : Bool) (l : List Item), (itemsT n r x l).2.2.length = l.length + n := by
  induction n with
  | zero => intro r x l; rfl
  | succ n ih => intro r x l; rw [itemsT, ih, List.length_append, List.length_singleton]; omega
theorem manyN_le (r : RS) (most : Nat) : manyN r most ≤ most := by rw [manyN]; split <;> omega
def Small (m : Mg) : Prop := m.es.length ≤ 1000000 ∧ m.its.length ≤ 1000000
theorem takeF_small (T : Tk) (f : Nat) (h : Small T.m) : Small (takeF T f).m := by
  match f with
  | 0 => exact h
  | 1 => exact h
  | 2 => exact h
  | 3 => exact h
  | 4 => exact h
  | 5 => exact h
  | 6 => exact h
  | 7 =>
    refine ⟨?_, h.2⟩
    show (entsT _ _ _ []).2.2.length ≤ _
    rw [entsT_len]
    have := manyN_le T.r 8
    simp
    omega
  | 8 =>
    refine ⟨h.1, ?_⟩
    show (itemsT _ _ _ []).2.2.length ≤ _
    rw [itemsT_len]
    have := manyN_le T.r 16
    simp
    omega
  | n + 9 => exact h
theorem takeT_small (T : Tk) (l : List Nat) (h : Small T.m) : Small (takeT T l).m := by
  induction l generalizing T with
  | nil => exact h
  | cons f r ih => exact ih (takeF T f) (takeF_small T f h)
theorem headM_small (k r : Int) : Small (headM k r) := ⟨by show (0 : Nat) ≤ _; omega, by show (0 : Nat) ≤ _; omega⟩

set_option maxHeartbeats 2000000 in
theorem msTake_none (cap : Nat) (A : Option Addr) (w : World) :
    Calls Try.prog 19 #[.slice A 0 cap] w fun x w' => ∃ e t, x = .returned (.tuple #[((takeM []).1.raw e t).val, .int .i64 (takeM []).2]) ∧ Lists w' e t (takeM []).1 ∧ Below w.heap.size w w' := by
  go_enter Try.func19, Try.ntmps19
  go_wp2_with (refine wpList_alloc_row rfl 27 rfl Mr.zero.enc.toArray Mr.zero_is ?_)
  intro w1 b1 x1 z1
  obtain ⟨gO, hgO⟩ : ∃ g, g = w.heap.size := ⟨_, rfl⟩
  have M_O := Lib.hid (show w.heap.size ≤ gO from by rw [hgO]; exact Nat.le_refl _)
  have B1 := Lib.hid b1
  rw [← hgO] at x1 ⊢
  have O1 : Hid (Mr.At w1 gO Mr.zero) := Lib.hid x1
  clear b1 x1 z1 hgO 
  go_wp2_with (first | (with_reducible refine wpList_load_whole_st Mr.isRec rfl _ rfl gO (by with_unfolding_all exact rfl) _ _ (Mr.len _) O1.out ?_) | (with_reducible refine wpList_store_whole rfl 27 _ _ rfl gO Mr.zero.enc.toArray (by with_unfolding_all exact rfl) (by with_unfolding_all exact rfl) _ _ O1.out (Mr.size _) rfl (Mr.one _) ?_) | (with_reducible refine wpList_build_rec rfl 27 _ rfl #[] (by with_unfolding_all exact rfl) Mr.zero.enc.toArray (by kernel_rfl) ?_))
  intro w2 q2 x2 z2
  have O2 : Hid (Mr.At w2 gO Mr.zero) := Lib.hid x2
  have B2 := Lib.hid (B1.out.grown q2 B1.out.size (fun k hk => by injection hk with hk; have := M_O.out; omega))
  clear q2 x2 z2 O1 B1
  go_wp2
  exact bodyPost_ret (results_st_tmp Mr.isRec rfl _ _ _ _ _ rfl rfl O2.out) rfl ⟨Row.nil, Row.nil, rfl, Lists.zero _, B2.out⟩
end Go.Proofs.Ytnjeopgcpffkcaa
