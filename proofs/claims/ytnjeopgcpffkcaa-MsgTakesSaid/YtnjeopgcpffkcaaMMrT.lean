/- The document's Take. -/
import Derived.Test.YtnjeopgcpffkcaaMMrF
import Derived.Test.YtnjeopgcpffkcaaMMrR
import Derived.Test.YtnjeopgcpffkcaaGbc
import Derived.Test.YtnjeopgcpffkcaaMCpy
namespace Go.Proofs.Ytnjeopgcpffkcaa
set_option maxRecDepth 100000
open Go.RowKit

/-- A list that is too long was met ahead of every error. -/
theorem big_ok : ∀ (l : List Nat) (T : Tk), T.big = false → (∀ f ∈ l.dropLast, f ≠ 7 ∧ f ≠ 8) → (takeT T l).big = true → (takeT T l).r.e = 0 := by
  have one : ∀ (T : Tk) (most : Nat), manyX T.r most = true → (rawS T.r 1).e = 0 := by
    intro T most h
    rw [manyX, decide_eq_true_eq] at h
    by_cases h0 : T.r.e = 0
    · by_cases h1 : 1 ≤ T.r.l.length
      · rw [rawS_some h0 h1]
      · rw [numO, rawO_short (by omega)] at h
        exact absurd h (by show ¬ most < 0; omega)
    · rw [numO, rawO_met h0] at h
      exact absurd h (by show ¬ most < 0; omega)
  have none7 : ∀ (T : Tk), manyX T.r 8 = true → manyN T.r 8 = 0 := by
    intro T h
    rw [manyX, decide_eq_true_eq] at h
    rw [manyN, if_pos h]
  have none8 : ∀ (T : Tk), manyX T.r 16 = true → manyN T.r 16 = 0 := by
    intro T h
    rw [manyX, decide_eq_true_eq] at h
    rw [manyN, if_pos h]
  have same : ∀ (T : Tk) (f : Nat), f ≠ 7 → f ≠ 8 → (takeF T f).big = T.big := by
    intro T f h7 h8
    match f, h7, h8 with
    | 0, _, _ => rfl
    | 1, _, _ => rfl
    | 2, _, _ => rfl
    | 3, _, _ => rfl
    | 4, _, _ => rfl
    | 5, _, _ => rfl
    | 6, _, _ => rfl
    | 7, h, _ => exact absurd rfl h
    | 8, _, h => exact absurd rfl h
    | n + 9, _, _ => rfl
  intro l
  induction l with
  | nil =>
    intro T hT _ h
    rw [show takeT T [] = T from rfl, hT] at h
    cases h
  | cons f r ih =>
    intro T hT hl h
    cases r with
    | nil =>
      have h : (takeF T f).big = true := h
      show (takeF T f).r.e = 0
      by_cases h7 : f = 7
      · subst h7
        have hx : (T.big || manyX T.r 8) = true := h
        rw [hT, Bool.false_or] at hx
        show (entsT (manyN T.r 8) (rawS T.r 1) T.bad []).1.e = 0
        rw [none7 T hx]
        exact one T 8 hx
      · by_cases h8 : f = 8
        · subst h8
          have hx : (T.big || manyX T.r 16) = true := h
          rw [hT, Bool.false_or] at hx
          show (itemsT (manyN T.r 16) (rawS T.r 1) T.bad []).1.e = 0
          rw [none8 T hx]
          exact one T 16 hx
        · rw [same T f h7 h8, hT] at h
          cases h
    | cons g r =>
      have h1 := hl f (by simp)
      exact ih (takeF T f) (by rw [same T f h1.1 h1.2, hT]) (fun x hx => hl x (by rw [List.dropLast_cons_of_ne_nil (by simp)]; exact List.mem_cons_of_mem _ hx)) h
theorem fld_last (k : Int) : ∀ f ∈ (fldK k).dropLast, f ≠ 7 ∧ f ≠ 8 := by
  rcases kinds k with rfl | rfl | rfl | rfl | rfl | rfl | rfl | rfl | rfl | rfl | rfl | rfl | rfl | rfl | rfl | rfl | hk
  all_goals first | (rw [fld_out hk]; simp) | decide
theorem fld_nodup (k : Int) : (fldK k).Nodup := by
  rcases kinds k with rfl | rfl | rfl | rfl | rfl | rfl | rfl | rfl | rfl | rfl | rfl | rfl | rfl | rfl | rfl | rfl | hk
  all_goals first | (rw [fld_out hk]; simp) | decide
theorem take_es (T : Tk) (l : List Nat) (h : 7 ∉ l) : (takeT T l).m.es = T.m.es := by
  induction l generalizing T with
  | nil => rfl
  | cons f r ih =>
    show (takeT (takeF T f) r).m.es = _
    rw [ih (takeF T f) (fun k => h (List.mem_cons_of_mem _ k))]
    have h7 : f ≠ 7 := fun e => h (by rw [e]; simp)
    match f, h7 with
    | 0, _ => rfl
    | 1, _ => rfl
    | 2, _ => rfl
    | 3, _ => rfl
    | 4, _ => rfl
    | 5, _ => rfl
    | 6, _ => rfl
    | 7, h => exact absurd rfl h
    | 8, _ => rfl
    | n + 9, _ => rfl
theorem take_its (T : Tk) (l : List Nat) (h : 8 ∉ l) : (takeT T l).m.its = T.m.its := by
  induction l generalizing T with
  | nil => rfl
  | cons f r ih =>
    show (takeT (takeF T f) r).m.its = _
    rw [ih (takeF T f) (fun k => h (List.mem_cons_of_mem _ k))]
    have h8 : f ≠ 8 := fun e => h (by rw [e]; simp)
    match f, h8 with
    | 0, _ => rfl
    | 1, _ => rfl
    | 2, _ => rfl
    | 3, _ => rfl
    | 4, _ => rfl
    | 5, _ => rfl
    | 6, _ => rfl
    | 7, _ => rfl
    | 8, h => exact absurd rfl h
    | n + 9, _ => rfl

theorem refTake_any1 (f : Nat) (hf : f < 9) (w0 : World) (gT gQ gO base : Nat) (A : Option Addr) (cap : Nat) (b : List UInt8) (hb : Ttb w0 gT gQ gO base A b) (T : Tk) (h7 : f = 7 → T.m.es = []) (h8 : f = 8 → T.m.its = []) (w : World) (hh : Ttk w0 gT gQ gO base A cap b T w) :
    Calls Try.prog 52 #[.pointer (some ⟨gT, 0, none⟩), .int .u8 ((letC f).toNat : Int)] w fun x w' => x = .returned (.tuple #[]) ∧ Ttk w0 gT gQ gO base A cap b (takeF T f) w' :=
  match f, hf, h7, h8 with
  | 0, _, _, _ => refTake_0 w0 gT gQ gO base A cap b hb T w hh
  | 1, _, _, _ => refTake_1 w0 gT gQ gO base A cap b hb T w hh
  | 2, _, _, _ => refTake_2 w0 gT gQ gO base A cap b hb T w hh
  | 3, _, _, _ => refTake_3 w0 gT gQ gO base A cap b hb T w hh
  | 4, _, _, _ => refTake_4 w0 gT gQ gO base A cap b hb T w hh
  | 5, _, _, _ => refTake_5 w0 gT gQ gO base A cap b hb T w hh
  | 6, _, _, _ => refTake_6 w0 gT gQ gO base A cap b hb T w hh
  | 7, _, h7, _ => refTake_7 w0 gT gQ gO base A cap b hb T (h7 rfl) w hh
  | 8, _, _, h8 => refTake_8 w0 gT gQ gO base A cap b hb T (h8 rfl) w hh
  | n + 9, h, _, _ => absurd h (by omega)

set_option maxHeartbeats 1000000 in
theorem refMsTake_none (cap : Nat) (A : Option Addr) (w : World) :
    Calls Try.prog 20 #[.slice A 0 cap] w fun x w' => ∃ e t, x = .returned (.tuple #[((takeM []).1.raw e t).val, .int .i64 (takeM []).2]) ∧ Lists w' e t (takeM []).1 ∧ Below w.heap.size w w' := by
  go_enter Try.func20, Try.ntmps20
  go_wp2_with (refine wpList_alloc_row rfl 27 rfl Mr.zero.enc.toArray Mr.zero_is ?_)
  intro w1 b1 x1 z1
  obtain ⟨gO, hgO⟩ : ∃ g, g = w.heap.size := ⟨_, rfl⟩
  have M_O := Lib.hid (show w.heap.size ≤ gO from by rw [hgO]; exact Nat.le_refl _)
  have B1 := Lib.hid b1
  rw [← hgO] at x1 ⊢
  have O1 : Hid (Mr.At w1 gO Mr.zero) := Lib.hid x1
  clear b1 x1 z1 hgO 
  go_wp2_with (first | (with_reducible refine wpList_load_whole_st Mr.isRec rfl _ rfl gO (by with_unfolding_all exact rfl) _ _ (Mr.len _) O1.out ?_) | (with_reducible refine wpList_store_whole rfl 27 _ _ rfl gO Mr.zero.enc.toArray (by with_unfolding_all exact rfl) (by with_unfolding_all exact rfl) _ _ O1.out (Mr.size _) rfl (Mr.one _) ?_) | (with_reducible refine wpList_build_rec rfl 27 _ rfl #[] (by with_unfolding_all exact rfl) Mr.zero.enc.toArray (by kernel_rfl) ?_))
  intro w2 q2 x2 z2
  have O2 : Hid (Mr.At w2 gO Mr.zero) := Lib.hid x2
  have B2 := Lib.hid (B1.out.grown q2 B1.out.size (fun k hk => by injection hk with hk; have := M_O.out; omega))
  clear q2 x2 z2 O1 B1
  go_wp2
  exact bodyPost_ret (results_st_tmp Mr.isRec rfl _ _ _ _ _ rfl rfl O2.out) rfl ⟨Row.nil, Row.nil, rfl, Lists.zero _, B2.out⟩

set_option maxHeartbeats 1000000 in
theorem refMsTake_kind (A : Option Addr) (n cap : Nat) (c : UInt8) (r : List UInt8) (w : World) (h : BytesAt w (.slice A n cap) (c :: r)) (hk : knownK (c.toNat : Int) = false) :
    Calls Try.prog 20 #[.slice A n cap] w fun x w' => ∃ e t, x = .returned (.tuple #[((takeM (c :: r)).1.raw e t).val, .int .i64 (takeM (c :: r)).2]) ∧ Lists w' e t (takeM (c :: r)).1 ∧ Below w.heap.size w w' := by
  have HT : Hid (takeM (c :: r) = (Mg.zero, 13)) := Lib.hid (by rw [takeM, if_pos hk])
  have hn : 0 < n := by have := h.size.1; rw [this]; simp
  obtain ⟨g, off, rfl, hgl, hc⟩ := h.spots (by simp)
  have HC := Lib.hid (hc 0 c (by simp))
  have CK := fun w => Lib.hid (refLetters_any (c.toNat : Int) w)
  have hd := letters_dash (c.toNat : Int)
  rw [hk] at hd
  obtain ⟨L, hL⟩ : ∃ L, L = lettersK (c.toNat : Int) := ⟨_, rfl⟩
  rw [← hL] at CK hd
  have r0 : (L == [45]) = true := by simpa using hd
  have rz : IntKind.i64.wrap (c.toNat : Int) = (c.toNat : Int) := by have := c.toNat_lt; rw [IntWalk.i64_in _ (by omega)]
  have e0 : ((n : Int) == 0) = false := by simp; omega
  rw [HT.out]
  clear h hc hk hd hL
  go_enter Try.func20, Try.ntmps20
  go_wp2_with (refine wpList_alloc_row rfl 27 rfl Mr.zero.enc.toArray Mr.zero_is ?_)
  intro w1 b1 x1 z1
  obtain ⟨gO, hgO⟩ : ∃ g, g = w.heap.size := ⟨_, rfl⟩
  have M_O := Lib.hid (show w.heap.size ≤ gO from by rw [hgO]; exact Nat.le_refl _)
  have B1 := Lib.hid b1
  rw [← hgO] at x1 ⊢
  have O1 : Hid (Mr.At w1 gO Mr.zero) := Lib.hid x1
  clear b1 x1 z1 hgO 
  have c0 : w1.cell? ⟨g, off, none⟩ = some (.int .u8 (c.toNat : Int)) := (B1.out.cell (p := ⟨g, off, none⟩) hgl).trans HC.out
  go_wp2_with (with_reducible refine wpList_load_whole_st Mr.isRec rfl _ rfl gO (by with_unfolding_all exact rfl) _ _ (Mr.len _) O1.out ?_)
  refine ((CK w1).out).mono ?_
  rintro e2 w2 ⟨rfl, b2⟩
  have O2 : Hid (Mr.At w2 gO Mr.zero) := Lib.hid (Whole.below O1.out b2 O1.out.lt)
  have B2 := Lib.hid (B1.out.trans (b2.mono B1.out.size))
  clear b2 O1 B1
  clear c0
  go_wp2_with (first | (with_reducible refine wpList_load_whole_st Mr.isRec rfl _ rfl gO (by with_unfolding_all exact rfl) _ _ (Mr.len _) O2.out ?_) | (with_reducible refine wpList_store_whole rfl 27 _ _ rfl gO Mr.zero.enc.toArray (by with_unfolding_all exact rfl) (by with_unfolding_all exact rfl) _ _ O2.out (Mr.size _) rfl (Mr.one _) ?_) | (with_reducible refine wpList_build_rec rfl 27 _ rfl #[] (by with_unfolding_all exact rfl) Mr.zero.enc.toArray (by kernel_rfl) ?_))
  intro w3 q3 x3 z3
  have O3 : Hid (Mr.At w3 gO Mr.zero) := Lib.hid x3
  have B3 := Lib.hid (B2.out.grown q3 B2.out.size (fun k hk => by injection hk with hk; have := M_O.out; omega))
  clear q3 x3 z3 O2 B2
  go_wp2
  exact bodyPost_ret (results_st_tmp Mr.isRec rfl _ _ _ _ _ rfl rfl O3.out) rfl ⟨Row.nil, Row.nil, rfl, Lists.zero _, B3.out⟩
end Go.Proofs.Ytnjeopgcpffkcaa
