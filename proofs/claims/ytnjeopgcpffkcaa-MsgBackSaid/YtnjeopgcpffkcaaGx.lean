/- Package msg: a message without what its kind does not have: bare, Bare. -/
import Derived.Test.YtnjeopgcpffkcaaGw
import Derived.Test.YtnjeopgcpffkcaaGn
import Derived.Test.YtnjeopgcpffkcaaGt
namespace Go.Proofs.Ytnjeopgcpffkcaa
set_option maxRecDepth 100000
open Go.RowKit

/-- A function with a body is entered. -/
theorem enter_of {P : Program} {F : FuncId} {fn : Func} (hf : P.funcs[F]? = some fn) (hn : decide (fn.name = "runtime.NumGoroutine") = false) (hb : fn.body.isNone = false) (args : Array Value) (w : World) : (callFunc F args).run P w = .ok (.enter F args) w := by
  have h1 : ¬ fn.name = "runtime.NumGoroutine" := by simpa using hn
  have h2 : ¬ fn.body = none := fun e => by rw [e] at hb; cases hb
  simp [callFunc, go_sem, hf, h1, h2]
theorem enter_bare : ∀ args w, (callFunc 64 args).run Try.prog w = .ok (.enter 64 args) w := by
  intro args w
  have hn : decide (Try.f64.name = "runtime.NumGoroutine") = false := by kernel_rfl
  have hb : Try.f64.body.isNone = false := by kernel_rfl
  exact enter_of Try.func64 hn hb args w

/-- So many fields were kept. -/
def foldK (m : Mg) (fs : List Nat) : Mg := fs.foldl (fun t f => keepM t m f) (headM m.kind m.rid)
theorem foldK_snoc (m : Mg) (fs : List Nat) (f : Nat) : foldK m (fs ++ [f]) = keepM (foldK m fs) m f := by simp [foldK]
theorem step_lt {k : Int} {fs : List Nat} {f : Nat} (h : Step k fs f) : f < 9 := fld_lt (h.subset (by simp))
theorem keep_lists {w : World} {o m : Mg} {e1 t1 e t : Row} {f : Nat} (hf : f < 9) (h1 : Lists w e1 t1 o) (h : Lists w e t m) : Lists w (if f = 7 then e else e1) (if f = 8 then t else t1) (keepM o m f) := by
  match f, hf with
  | 0, _ => exact ⟨h1.es, h1.its⟩
  | 1, _ => exact ⟨h1.es, h1.its⟩
  | 2, _ => exact ⟨h1.es, h1.its⟩
  | 3, _ => exact ⟨h1.es, h1.its⟩
  | 4, _ => exact ⟨h1.es, h1.its⟩
  | 5, _ => exact ⟨h1.es, h1.its⟩
  | 6, _ => exact ⟨h1.es, h1.its⟩
  | 7, _ => exact ⟨h.es, h1.its⟩
  | 8, _ => exact ⟨h1.es, h.its⟩
  | n + 9, h => exact absurd h (by omega)

/-- While bare goes through the fields. -/
def BareI (w0 : World) (gM gT gO : Nat) (m : Mg) (e t : Row) (fs : List Nat) (w : World) : Prop :=
  ∃ e1 t1, Mr.At w gT ((foldK m fs).raw e1 t1) ∧ Lists w0 e1 t1 (foldK m fs) ∧ Mr.At w gM (m.raw e t) ∧ Mr.At w gO Mr.zero ∧ Below w0.heap.size w0 w

set_option maxHeartbeats 1000000 in
theorem bare1_any (w0 : World) (gM gT gO : Nat) (m : Mg) (e t : Row) (hL : Lists w0 e t m) (hMT : gM < gT) (hOT : gO < gT) (hT : w0.heap.size ≤ gT) (fs : List Nat) (f : Nat) (w : World) (hs : Step m.kind fs f) (h : BareI w0 gM gT gO m e t fs w) :
    Calls Try.prog 64 #[.int .i64 (f : Int), .pointer (some ⟨gT, 0, none⟩), .pointer (some ⟨gM, 0, none⟩)] w fun x w' => x = .returned (.tuple #[]) ∧ BareI w0 gM gT gO m e t (fs ++ [f]) w' := by
  obtain ⟨e1, t1, hT1, hL1, hM1, hO1, hb⟩ := h
  have CK := Lib.hid (keep_any f (step_lt hs) gT (foldK m fs) m e1 t1 e t w hT1)
  have M1 := Lib.hid hM1
  have HX : Hid (∀ w', Kept gT f (foldK m fs) m e1 t1 e t w w' → BareI w0 gM gT gO m e t (fs ++ [f]) w') := Lib.hid (by
    rintro w' ⟨hat, hk⟩
    exact ⟨_, _, by rw [foldK_snoc]; exact hat, by rw [foldK_snoc]; exact keep_lists (step_lt hs) hL1 hL, Whole.keeps hM1 hk (by omega), Whole.keeps hO1 hk (by omega), hb.trans (hk.below (fun i hi => by omega) hb.size)⟩)
  clear hT1 hL1 hM1 hO1 hb
  go_enter Try.func64, Try.ntmps64
  go_wp2_with (with_reducible refine wpList_load_whole_st Mr.isRec rfl _ rfl gM (by with_unfolding_all exact rfl) _ _ (Mr.len _) M1.out ?_)
  refine CK.out.mono ?_
  rintro x w1 ⟨rfl, h1⟩
  have H1 := Lib.hid (HX.out w1 h1)
  clear h1
  go_wp2
  go_end0
  exact ⟨rfl, H1.out⟩

set_option maxHeartbeats 2000000 in
theorem msbare_any (m : Mg) (e t : Row) (w : World) (h : Lists w e t m) :
    Calls Try.prog 34 #[(m.raw e t).val] w fun x w' => ∃ e' t', x = .returned ((bareM m).raw e' t').val ∧ Lists w' e' t' (bareM m) ∧ Below w.heap.size w w' := by
  have H := Lib.hid h
  have HB := Lib.hid (bare_fold m)
  clear h
  go_enter Try.func34, Try.ntmps34
  go_wp2_with (refine wpList_box_row rfl 27 _ rfl (m.raw e t).enc.toArray (by with_unfolding_all exact rfl) ?_)
  intro w1 b1 x1 z1
  obtain ⟨gM, hgM⟩ : ∃ g, g = w.heap.size := ⟨_, rfl⟩
  have M_M := Lib.hid (show w.heap.size ≤ gM from by rw [hgM]; exact Nat.le_refl _)
  have B1 := Lib.hid b1
  rw [← hgM] at x1 ⊢
  have M1 : Hid (Mr.At w1 gM (m.raw e t)) := Lib.hid x1
  clear b1 x1 z1 hgM 
  go_wp2_with (first | (with_reducible refine wpList_load_whole_st Mr.isRec rfl _ rfl gM (by with_unfolding_all exact rfl) _ _ (Mr.len _) M1.out ?_) | (refine wpList_alloc_row rfl 27 rfl Mr.zero.enc.toArray Mr.zero_is ?_))
  intro w2 b2 x2 z2
  obtain ⟨gO, hgO⟩ : ∃ g, g = w1.heap.size := ⟨_, rfl⟩
  have N_M_O := Lib.hid (show gM < gO from by rw [hgO]; exact M1.out.lt)
  have M_O := Lib.hid (show w.heap.size ≤ gO from by rw [hgO]; exact B1.out.size)
  have M2 : Hid (Mr.At w2 gM (m.raw e t)) := Lib.hid (Whole.below M1.out b2 M1.out.lt)
  have B2 := Lib.hid (B1.out.trans (b2.mono B1.out.size))
  rw [← hgO] at x2 ⊢
  have O2 : Hid (Mr.At w2 gO Mr.zero) := Lib.hid x2
  clear b2 x2 z2 hgO M1 B1
  have c0 : w2.cell? ⟨gM, 0, none⟩ = some (.int .i64 m.kind) := M2.out.at_ 0
  have c1 : w2.cell? ⟨gM, 1, none⟩ = some (.int .i64 m.rid) := M2.out.at_ 1
  go_wp2_with (first | (with_reducible refine wpList_load_whole_st Mr.isRec rfl _ rfl gM (by with_unfolding_all exact rfl) _ _ (Mr.len _) M2.out ?_) | (with_reducible refine wpList_load_whole_st Mr.isRec rfl _ rfl gO (by with_unfolding_all exact rfl) _ _ (Mr.len _) O2.out ?_) | (refine wpList_alloc_row rfl 27 rfl Mr.zero.enc.toArray Mr.zero_is ?_) | (with_reducible refine wpList_build_rec rfl 27 _ rfl #[(0, .int .i64 m.kind), (1, .int .i64 m.rid)] (by with_unfolding_all exact rfl) ((headM m.kind m.rid).raw Row.nil Row.nil).enc.toArray (by kernel_rfl) ?_))
  intro w3 b3 x3 z3
  obtain ⟨gT, hgT⟩ : ∃ g, g = w2.heap.size := ⟨_, rfl⟩
  have N_M_T := Lib.hid (show gM < gT from by rw [hgT]; exact M2.out.lt)
  have N_O_T := Lib.hid (show gO < gT from by rw [hgT]; exact O2.out.lt)
  have M_T := Lib.hid (show w.heap.size ≤ gT from by rw [hgT]; exact B2.out.size)
  have M3 : Hid (Mr.At w3 gM (m.raw e t)) := Lib.hid (Whole.below M2.out b3 M2.out.lt)
  have O3 : Hid (Mr.At w3 gO Mr.zero) := Lib.hid (Whole.below O2.out b3 O2.out.lt)
  have B3 := Lib.hid (B2.out.trans (b3.mono B2.out.size))
  rw [← hgT] at x3 ⊢
  have T3 : Hid (Mr.At w3 gT Mr.zero) := Lib.hid x3
  clear b3 x3 z3 hgT M2 O2 B2
  clear c0 c1
  go_wp2_with (first | (with_reducible refine wpList_load_whole_st Mr.isRec rfl _ rfl gM (by with_unfolding_all exact rfl) _ _ (Mr.len _) M3.out ?_) | (with_reducible refine wpList_load_whole_st Mr.isRec rfl _ rfl gO (by with_unfolding_all exact rfl) _ _ (Mr.len _) O3.out ?_) | (with_reducible refine wpList_load_whole_st Mr.isRec rfl _ rfl gT (by with_unfolding_all exact rfl) _ _ (Mr.len _) T3.out ?_) | (with_reducible refine wpList_store_whole rfl 27 _ _ rfl gT ((headM m.kind m.rid).raw Row.nil Row.nil).enc.toArray (by with_unfolding_all exact rfl) (by with_unfolding_all exact rfl) _ _ T3.out (Mr.size _) rfl (Mr.one _) ?_))
  intro w4 q4 x4 z4
  have T4 : Hid (Mr.At w4 gT ((headM m.kind m.rid).raw Row.nil Row.nil)) := Lib.hid x4
  have M4 : Hid (Mr.At w4 gM (m.raw e t)) := Lib.hid (grown_far M3.out q4 (by have := N_M_T.out; omega))
  have O4 : Hid (Mr.At w4 gO Mr.zero) := Lib.hid (grown_far O3.out q4 (by have := N_O_T.out; omega))
  have B4 := Lib.hid (B3.out.grown q4 B3.out.size (fun k hk => by injection hk with hk; have := M_T.out; omega))
  clear q4 x4 z4 T3 M3 O3 B3
  have CE := Lib.hid (each_any 64 enter_bare #[.pointer (some ⟨gT, 0, none⟩), .pointer (some ⟨gM, 0, none⟩)] m.kind (BareI w gM gT gO m e t) (fun fs f w' hs hi => bare1_any w gM gT gO m e t H.out N_M_T.out N_O_T.out M_T.out fs f w' hs hi) w4 ⟨Row.nil, Row.nil, T4.out, Lists.head _ _ _, M4.out, O4.out, B4.out⟩)
  have c0 : w4.cell? ⟨gM, 0, none⟩ = some (.int .i64 m.kind) := M4.out.at_ 0
  go_wp2_with fail
  refine CE.out.mono ?_
  rintro x u ⟨rfl, e1, t1, hT1, hL1, hM1, hO1, hb⟩
  rw [show foldK m (fldK m.kind) = bareM m from HB.out] at hT1 hL1
  have L1 := Lib.hid hL1
  have TU : Hid (Mr.At u gT ((bareM m).raw e1 t1)) := Lib.hid hT1
  have OU : Hid (Mr.At u gO Mr.zero) := Lib.hid hO1
  have BU := Lib.hid hb
  clear hT1 hL1 hM1 hO1 hb c0 CE M4 T4 O4 B4
  go_wp2_with (first | (with_reducible refine wpList_load_whole_st Mr.isRec rfl _ rfl gT (by with_unfolding_all exact rfl) _ _ (Mr.len _) TU.out ?_) | (with_reducible refine wpList_store_whole rfl 27 _ _ rfl gO ((bareM m).raw e1 t1).enc.toArray (by with_unfolding_all exact rfl) (by with_unfolding_all exact rfl) _ _ OU.out (Mr.size _) rfl (Mr.one _) ?_))
  intro u2 q2 x2 z2
  have OV : Hid (Mr.At u2 gO ((bareM m).raw e1 t1)) := Lib.hid x2
  have BV := Lib.hid (BU.out.grown q2 BU.out.size (fun k hk => by injection hk with hk; have := M_O.out; omega))
  have LV := Lib.hid (show Lists u2 e1 t1 (bareM m) from L1.out.below BV.out)
  clear q2 x2 z2
  go_wp2
  exact bodyPost_ret (results_st Mr.isRec rfl _ _ _ _ _ rfl rfl OV.out) rfl ⟨e1, t1, rfl, LV.out, BV.out⟩

theorem bareM_len (m : Mg) : (bareM m).es.length ≤ m.es.length ∧ (bareM m).its.length ≤ m.its.length := by
  constructor
  · simp only [bareM]; split <;> simp
  · simp only [bareM]; split <;> simp
set_option maxHeartbeats 1000000 in
theorem msBare_any (m : Mg) (e t : Row) (hes : m.es.length ≤ 1000000) (hits : m.its.length ≤ 1000000) (w : World) (h : Lists w e t m) :
    Calls Try.prog 15 #[(m.raw e t).val] w fun x w' => ∃ e' t', x = .returned ((bareM m).raw e' t').val ∧ Lists w' e' t' (bareM m) ∧ Below w.heap.size w w' := by
  have C1 := fun w1 (b : Below w.heap.size w w1) => Lib.hid (msbare_any m e t w1 (h.below b))
  have hl := bareM_len m
  have C2 := fun e1 t1 w1 h => Lib.hid (msCopy_any (bareM m) e1 t1 (by omega) (by omega) w1 h)
  clear h hl
  go_enter Try.func15, Try.ntmps15
  go_wp2_with (refine wpList_box_row rfl 27 _ rfl (m.raw e t).enc.toArray (by with_unfolding_all exact rfl) ?_)
  intro w1 b1 x1 z1
  obtain ⟨gM, hgM⟩ : ∃ g, g = w.heap.size := ⟨_, rfl⟩
  have M_M := Lib.hid (show w.heap.size ≤ gM from by rw [hgM]; exact Nat.le_refl _)
  have B1 := Lib.hid b1
  rw [← hgM] at x1 ⊢
  have M1 : Hid (Mr.At w1 gM (m.raw e t)) := Lib.hid x1
  clear b1 x1 z1 hgM 
  go_wp2_with (first | (with_reducible refine wpList_load_whole_st Mr.isRec rfl _ rfl gM (by with_unfolding_all exact rfl) _ _ (Mr.len _) M1.out ?_) | (refine wpList_alloc_row rfl 27 rfl Mr.zero.enc.toArray Mr.zero_is ?_))
  intro w2 b2 x2 z2
  obtain ⟨gO, hgO⟩ : ∃ g, g = w1.heap.size := ⟨_, rfl⟩
  have N_M_O := Lib.hid (show gM < gO from by rw [hgO]; exact M1.out.lt)
  have M_O := Lib.hid (show w.heap.size ≤ gO from by rw [hgO]; exact B1.out.size)
  have M2 : Hid (Mr.At w2 gM (m.raw e t)) := Lib.hid (Whole.below M1.out b2 M1.out.lt)
  have B2 := Lib.hid (B1.out.trans (b2.mono B1.out.size))
  rw [← hgO] at x2 ⊢
  have O2 : Hid (Mr.At w2 gO Mr.zero) := Lib.hid x2
  clear b2 x2 z2 hgO M1 B1
  go_wp2_with (first | (with_reducible refine wpList_load_whole_st Mr.isRec rfl _ rfl gM (by with_unfolding_all exact rfl) _ _ (Mr.len _) M2.out ?_) | (with_reducible refine wpList_load_whole_st Mr.isRec rfl _ rfl gO (by with_unfolding_all exact rfl) _ _ (Mr.len _) O2.out ?_))
  refine (C1 w2 B2.out).out.mono ?_
  rintro x u ⟨e1, t1, rfl, h1, b1⟩
  have OU : Hid (Mr.At u gO Mr.zero) := Lib.hid (Whole.below O2.out b1 O2.out.lt)
  have BU := Lib.hid (B2.out.trans (b1.mono B2.out.size))
  have CC := Lib.hid (C2 e1 t1 u h1).out
  have GU := Lib.hid OU.out.lt
  clear b1 h1 C1 C2 M2 O2 B2
  go_wp2_with fail
  refine CC.out.mono ?_
  rintro x u2 ⟨e2, t2, rfl, h2, b2⟩
  have OV : Hid (Mr.At u2 gO Mr.zero) := Lib.hid (Whole.below OU.out b2 OU.out.lt)
  have BV := Lib.hid (BU.out.trans (b2.mono BU.out.size))
  have LV := Lib.hid h2
  clear b2 h2 CC OU BU
  go_wp2_with (with_reducible refine wpList_store_whole rfl 27 _ _ rfl gO ((bareM m).raw e2 t2).enc.toArray (by with_unfolding_all exact rfl) (by with_unfolding_all exact rfl) _ _ OV.out (Mr.size _) rfl (Mr.one _) ?_)
  intro u3 q3 x3 z3
  have OW : Hid (Mr.At u3 gO ((bareM m).raw e2 t2)) := Lib.hid x3
  have BW := Lib.hid (BV.out.grown q3 BV.out.size (fun k hk => by injection hk with hk; have := M_O.out; omega))
  have LW := Lib.hid (LV.out.far q3 GU.out).lists
  clear q3 x3 z3 BV LV OV
  go_wp2
  exact bodyPost_ret (results_st Mr.isRec rfl _ _ _ _ _ rfl rfl OW.out) rfl ⟨e2, t2, rfl, LW.out, BW.out⟩
end Go.Proofs.Ytnjeopgcpffkcaa
