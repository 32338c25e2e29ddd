/- Package msg: Put. (Written by tools/mkmsput.py.) The statements' own Great. -/
import Derived.Test.YtnjeopgcpffkcaaGbd
import Derived.Test.YtnjeopgcpffkcaaGi
namespace Go.Proofs.Ytnjeopgcpffkcaa
set_option maxRecDepth 100000
open Go.RowKit

theorem putF_length {m : Mg} (h : RightM m) (f : Nat) : (putF m f).length ≤ 1200 := by
  have hk := right_key h
  have hv := h.val
  have h1 := entsL_length h.es
  have h2 := itemsL_length h.its
  have h3 := h.many
  have h4 := h.items
  match f with
  | 0 => simp [putF, be_length]
  | 1 => simp [putF, flagL_length]
  | 2 => simp [putF, flagL_length]
  | 3 => simp [putF, be_length]
  | 4 => simp [putF, be_length]
  | 5 => simp only [putF, encS_len]; omega
  | 6 => simp only [putF, encS_len]; omega
  | 7 => simp only [putF, List.length_append, be_length]; omega
  | 8 => simp only [putF, List.length_append, be_length]; omega
  | n + 9 => simp [putF]
theorem puts_length {m : Mg} (h : RightM m) (l : List Nat) : (l.flatMap (putF m)).length ≤ 1200 * l.length := by
  induction l with
  | nil => simp
  | cons f r ih =>
    have := putF_length h f
    rw [List.flatMap_cons, List.length_append, List.length_cons]
    omega
theorem fld_len (k : Int) : (fldK k).length ≤ 5 := by
  rcases kinds k with rfl | rfl | rfl | rfl | rfl | rfl | rfl | rfl | rfl | rfl | rfl | rfl | rfl | rfl | rfl | rfl | hk
  all_goals first | decide | (rw [fld_out hk]; decide)
theorem enter_put : ∀ args w, (callFunc 27 args).run Try.prog w = .ok (.enter 27 args) w := by
  intro args w
  have hn : decide (Try.f27.name = "runtime.NumGoroutine") = false := by kernel_rfl
  have hb : Try.f27.body.isNone = false := by kernel_rfl
  exact enter_of Try.func27 hn hb args w
/-- What was put ahead of the fields. -/
def headB (m : Mg) : List UInt8 := be 1 (uN m.kind) ++ be 4 (uN m.rid)
/-- While Put goes through the fields. -/
def PutI (w0 : World) (gM gB base : Nat) (m : Mg) (e t : Row) (fs : List Nat) (w : World) : Prop :=
  ∃ v, Whole w gB 33 #[v] ∧ OwnB w base v (headB m ++ fs.flatMap (putF m)) ∧ v.ownBlock ≠ some gB ∧ Mr.At w gM (m.raw e t) ∧ Below w0.heap.size w0 w

set_option maxHeartbeats 1000000 in
theorem put1_any (w0 : World) (gM gB base : Nat) (m : Mg) (e t : Row) (hI : Lists w0 e t m) (hR : RightM m) (hM : gM < base) (hB0 : w0.heap.size ≤ base) (hBB : base ≤ gB) (fs : List Nat) (f : Nat) (w : World) (hs : Step m.kind fs f) (h : PutI w0 gM gB base m e t fs w) :
    Calls Try.prog 27 #[.int .i64 (f : Int), .pointer (some ⟨gB, 0, none⟩), .pointer (some ⟨gM, 0, none⟩)] w fun x w' => x = .returned (.tuple #[]) ∧ PutI w0 gM gB base m e t (fs ++ [f]) w' := by
  obtain ⟨v, hv, ho, hn, hm, hb⟩ := h
  have hlen : (headB m ++ fs.flatMap (putF m)).length ≤ 20000 := by
    have h1 := puts_length hR fs
    have h2 := fld_len m.kind
    have h3 : fs.length ≤ 5 := by
      have := List.IsPrefix.length_le hs
      rw [List.length_append] at this
      omega
    rw [List.length_append, headB, List.length_append, be_length, be_length]
    omega
  have hbase : base ≤ w.heap.size := Nat.le_trans hBB (Nat.le_of_lt hv.lt)
  have CP := Lib.hid (put_any f (step_lt hs) w0 m e t hI hR base hB0 v _ hlen w hb ho hbase)
  have V0 := Lib.hid hv
  have M0 := Lib.hid hm
  have O0 := Lib.hid ho
  have N0 := Lib.hid hn
  have D0 := Lib.hid hb
  have HE : Hid (headB m ++ fs.flatMap (putF m) ++ putF m f = headB m ++ (fs ++ [f]).flatMap (putF m)) := Lib.hid (by simp)
  have c0 : w.cell? ⟨gB, 0, none⟩ = some v := hv.at_ 0
  rw [HE.out] at CP
  clear hv hm ho hn hb hlen hbase
  go_enter Try.func27, Try.ntmps27
  go_wp2_with (with_reducible refine wpList_load_whole_st Mr.isRec rfl _ rfl gM (by with_unfolding_all exact rfl) _ _ (Mr.len _) M0.out ?_)
  refine CP.out.mono ?_
  rintro x w1 ⟨v1, rfl, o1, m1⟩
  have V1 : Hid (Whole w1 gB 33 #[v]) := Lib.hid (V0.out.keeps m1.keeps N0.out)
  have M1 : Hid (Mr.At w1 gM (m.raw e t)) := Lib.hid (Whole.keeps M0.out m1.keeps (fun k => by have := (O0.out.lt _ k).1; omega))
  have D1 := Lib.hid (m1.old hB0 O0.out D0.out)
  have N1 : Hid (v1.ownBlock ≠ some gB) := Lib.hid (fun k => (m1.foot _ k).elim N0.out (fun q => by have := V0.out.lt; omega))
  have O1 := Lib.hid o1
  clear o1 m1 c0 CP V0 M0 O0 N0 D0
  obtain ⟨A1, cap1, hv1⟩ := own_form O1.out
  obtain ⟨n1, hn1⟩ : ∃ n, n = (headB m ++ (fs ++ [f]).flatMap (putF m)).length := ⟨_, rfl⟩
  rw [← hn1] at hv1
  clear hn1
  subst hv1
  go_wp2_with (with_reducible refine wpList_put_cell 33 ⟨by kernel_rfl, by kernel_rfl⟩ rfl _ _ rfl gB 0 (by with_unfolding_all exact rfl) _ (by with_unfolding_all exact rfl) (by with_unfolding_all exact rfl) (by with_unfolding_all exact rfl) _ _ V1.out _ (by with_unfolding_all exact rfl) ?_)
  intro w2 q2 x2 z2
  have HF : Hid (PutI w0 gM gB base m e t (fs ++ [f]) w2) := Lib.hid ⟨_, x2, O1.out.kept q2 (.inr N1.out), N1.out, grown_far M1.out q2 (by omega), D1.out.grown q2 D1.out.size (fun k hk => by injection hk with hk; omega)⟩
  clear q2 x2 z2 V1 M1 D1 N1 O1
  go_wp2
  go_end0
  exact ⟨rfl, HF.out⟩

set_option maxHeartbeats 2000000 in
theorem msPut_any (m : Mg) (e t : Row) (hes : m.es.length ≤ 1000000) (hits : m.its.length ≤ 1000000) (w : World) (h : Lists w e t m) :
    Calls Try.prog 10 #[(m.raw e t).val] w fun x w' => ∃ v, x = .returned (.tuple #[v, .int .i64 (if RightM m then 0 else 2)]) ∧ BytesAt w' v (if RightM m then putB m else []) ∧ Below w.heap.size w w' := by
  have H := Lib.hid h
  have CR := fun w1 (b : Below w.heap.size w w1) => Lib.hid (msRight_any m e t hes hits w1 (h.below b))
  clear h hes hits
  by_cases hr : RightM m
  · have HR := Lib.hid hr
    have e1 : rightM m = true := by rw [rightM, decide_eq_true hr]
    rw [if_pos hr, if_pos hr]
    rw [e1] at CR
    have rk : IntKind.u64.wrap m.kind = (uN m.kind : Int) := uN_wrap m.kind
    have rr : IntKind.u64.wrap m.rid = (uN m.rid : Int) := uN_wrap m.rid
    have HE : Hid (putB m = headB m ++ (fldK m.kind).flatMap (putF m)) := Lib.hid rfl
    clear hr e1
    go_enter Try.func10, Try.ntmps10
    go_wp2_with (refine wpList_box_row rfl 27 _ rfl (m.raw e t).enc.toArray (by with_unfolding_all exact rfl) ?_)
    intro w1 b1 x1 z1
    obtain ⟨gM, hgM⟩ : ∃ g, g = w.heap.size := ⟨_, rfl⟩
    have M_M := Lib.hid (show w.heap.size ≤ gM from by rw [hgM]; exact Nat.le_refl _)
    have B1 := Lib.hid b1
    rw [← hgM] at x1 ⊢
    have M1 : Hid (Mr.At w1 gM (m.raw e t)) := Lib.hid x1
    clear b1 x1 z1 hgM 
    have S0 := Lib.hid M1.out.lt
    obtain ⟨base, hbase⟩ : ∃ q, q = w1.heap.size := ⟨_, rfl⟩
    have HM := Lib.hid (show gM < base from by rw [hbase]; exact S0.out)
    have HB0 := Lib.hid (show w.heap.size ≤ base from by rw [hbase]; exact B1.out.size)
    have HB1 := Lib.hid (show base ≤ w1.heap.size from Nat.le_of_eq hbase)
    clear hbase
    have Z1 : Hid (base ≤ w1.heap.size) := Lib.hid (HB1.out)
    go_wp2_with (with_reducible refine wpList_load_whole_st Mr.isRec rfl _ rfl gM (by with_unfolding_all exact rfl) _ _ (Mr.len _) M1.out ?_)
    refine ((CR w1 B1.out).out).mono ?_
    rintro e2 w2 ⟨rfl, b2⟩
    have M2 : Hid (Mr.At w2 gM (m.raw e t)) := Lib.hid (Whole.below M1.out b2 M1.out.lt)
    have Z2 : Hid (base ≤ w2.heap.size) := Lib.hid (Nat.le_trans Z1.out b2.size)
    have B2 := Lib.hid (B1.out.trans (b2.mono B1.out.size))
    clear b2 M1 Z1 B1
    have HB2 := Lib.hid Z2.out
    clear Z2
    have c0 : w2.cell? ⟨gM, 0, none⟩ = some (.int .i64 m.kind) := M2.out.at_ 0
    have C1 := Lib.hid (put_num_at base (.slice none 0 0) [] (uN m.kind) 1 w2 (by decide) (by decide) (World.ownsRow_nil _ _ _ _) HB2.out (by decide))
    go_wp2_with fail
    refine C1.out.mono ?_
    rintro x u ⟨v1, rfl, o1, m1⟩
    have o1 : OwnB u base v1 (be 1 (uN m.kind)) := o1
    have MU : Hid (Mr.At u gM (m.raw e t)) := Lib.hid (Whole.keeps M2.out m1.keeps (by simp [VF, Value.ownBlock]))
    have DU := Lib.hid (B2.out.trans (m1.keeps.below (fun i hi => by simp [VF, Value.ownBlock] at hi) B2.out.size))
    have SU := Lib.hid (Nat.le_trans HB2.out m1.keeps.size)
    have bU : Below u.heap.size u (u.alloc (.cells #[.slice none 0 0] 33)) := (Below.refl _ _).alloc (Nat.le_refl _) _
    have VU : Hid (Whole (u.alloc (.cells #[.slice none 0 0] 33)) u.heap.size 33 #[.slice none 0 0]) := Lib.hid (Whole.new u _ _)
    have OU := Lib.hid (o1.below bU)
    have MA : Hid (Mr.At (u.alloc (.cells #[.slice none 0 0] 33)) gM (m.raw e t)) := Lib.hid (Whole.below MU.out bU MU.out.lt)
    have DA := Lib.hid (DU.out.trans (bU.mono DU.out.size))
    have NU := Lib.hid (show v1.ownBlock ≠ some u.heap.size from fun k => by have := (o1.lt _ k).2; omega)
    have LU := Lib.hid (show gM < u.heap.size from MU.out.lt)
    clear m1 c0 C1 bU M2 B2 HB2
    obtain ⟨A1, cap1, hv1⟩ := own_form o1
    obtain ⟨n1, hn1⟩ : ∃ n, n = (be 1 (uN m.kind)).length := ⟨_, rfl⟩
    rw [← hn1] at hv1
    clear o1 hn1
    subst hv1
    go_wp2_with (with_reducible refine wpList_put_cell 33 ⟨by kernel_rfl, by kernel_rfl⟩ rfl _ _ rfl u.heap.size 0 (by with_unfolding_all exact rfl) (.slice A1 n1 cap1) (by with_unfolding_all exact rfl) (by with_unfolding_all exact rfl) (by with_unfolding_all exact rfl) _ _ VU.out _ (by with_unfolding_all exact rfl) ?_)
    intro w5 q5 x5 z5
    obtain ⟨gB, hgB⟩ : ∃ q, q = u.heap.size := ⟨_, rfl⟩
    obtain ⟨v1, hv1⟩ : ∃ v, v = Value.slice A1 n1 cap1 := ⟨_, rfl⟩
    rw [← hgB] at x5 q5 LU SU NU ⊢
    rw [← hv1] at x5 NU OU
    have V5 : Hid (Whole w5 gB 33 #[v1]) := Lib.hid x5
    have O5 : Hid (OwnB w5 base v1 (be 1 (uN m.kind))) := Lib.hid (OU.out.kept q5 (.inr NU.out))
    have M5 : Hid (Mr.At w5 gM (m.raw e t)) := Lib.hid (grown_far MA.out q5 (by have := LU.out; omega))
    have D5 := Lib.hid (DA.out.grown q5 DA.out.size (fun k hk => by injection hk with hk; have := SU.out; have := HB0.out; omega))
    have S5 := Lib.hid (show base ≤ w5.heap.size from Nat.le_trans SU.out (Nat.le_of_lt x5.lt))
    clear x5 q5 z5 VU OU MA DA MU DU hgB
    have c0 : w5.cell? ⟨gB, 0, none⟩ = some (.slice A1 n1 cap1) := by rw [← hv1]; exact V5.out.at_ 0
    have c1 : w5.cell? ⟨gM, 1, none⟩ = some (.int .i64 m.rid) := M5.out.at_ 1
    have C2 := Lib.hid (put_num_at base v1 (be 1 (uN m.kind)) (uN m.rid) 4 w5 (by decide) (by decide) O5.out S5.out (by rw [be_length]; omega))
    rw [hv1] at C2
    have HV1 := Lib.hid hv1
    clear hv1
    go_wp2_with fail
    refine C2.out.mono ?_
    rintro x w6 ⟨v2, rfl, o6, m6⟩
    rw [← HV1.out] at m6
    have V6 : Hid (Whole w6 gB 33 #[v1]) := Lib.hid (V5.out.keeps m6.keeps NU.out)
    have N6 := Lib.hid (show v2.ownBlock ≠ some gB from fun k => (m6.foot _ k).elim NU.out (fun q => by have := V5.out.lt; omega))
    have M6 : Hid (Mr.At w6 gM (m.raw e t)) := Lib.hid (Whole.keeps M5.out m6.keeps (fun k => by have := (O5.out.lt _ k).1; have := HM.out; omega))
    have D6 := Lib.hid (m6.old HB0.out O5.out D5.out)
    have O6 := Lib.hid o6
    clear o6 m6 c0 c1 C2 V5 O5 M5 D5 S5 NU HV1
    obtain ⟨A2, cap2, hv2⟩ := own_form O6.out
    obtain ⟨n2, hn2⟩ : ∃ n, n = (be 1 (uN m.kind) ++ be 4 (uN m.rid)).length := ⟨_, rfl⟩
    rw [← hn2] at hv2
    clear hn2
    subst hv2
    go_wp2_with (with_reducible refine wpList_put_cell 33 ⟨by kernel_rfl, by kernel_rfl⟩ rfl _ _ rfl gB 0 (by with_unfolding_all exact rfl) (.slice A2 n2 cap2) (by with_unfolding_all exact rfl) (by with_unfolding_all exact rfl) (by with_unfolding_all exact rfl) _ _ V6.out _ (by with_unfolding_all exact rfl) ?_)
    intro w7 q7 x7 z7
    have HX := Lib.hid HR.out
    have HH := Lib.hid H.out
    have I7 : PutI w gM gB base m e t [] w7 := ⟨_, x7, (show OwnB w7 base _ (headB m ++ []) from by rw [List.append_nil]; exact O6.out.kept q7 (.inr N6.out)), N6.out, grown_far M6.out q7 (by have := LU.out; omega), D6.out.grown q7 D6.out.size (fun k hk => by injection hk with hk; have := SU.out; have := HB0.out; omega)⟩
    have c0 : w7.cell? ⟨gM, 0, none⟩ = some (.int .i64 m.kind) := (Whole.grown_own (g := gM) M6.out q7 (by have := LU.out; intro k; injection k with k; omega)).at_ 0
    have CE := Lib.hid (each_any 27 enter_put #[.pointer (some ⟨gB, 0, none⟩), .pointer (some ⟨gM, 0, none⟩)] m.kind (PutI w gM gB base m e t) (fun fs f w' hs hi => put1_any w gM gB base m e t HH.out HX.out HM.out HB0.out SU.out fs f w' hs hi) w7 I7)
    clear I7 q7 x7 z7 V6 O6 M6 D6 N6
    go_wp2_with fail
    refine CE.out.mono ?_
    rintro x w8 ⟨rfl, v8, hv8, ho8, hn8, hm8, hb8⟩
    rw [← HE.out] at ho8
    have O8 := Lib.hid (BytesAt.of_own ho8)
    have D8 := Lib.hid hb8
    have c8 : w8.cell? ⟨gB, 0, none⟩ = some v8 := hv8.at_ 0
    clear hv8 ho8 hn8 hm8 hb8 CE c0
    go_wp2
    go_ret2
    exact ⟨_, rfl, O8.out, D8.out⟩
  · have e1 : rightM m = false := by rw [rightM, decide_eq_false hr]
    rw [if_neg hr, if_neg hr]
    rw [e1] at CR
    clear hr e1
    go_enter Try.func10, Try.ntmps10
    go_wp2_with (refine wpList_box_row rfl 27 _ rfl (m.raw e t).enc.toArray (by with_unfolding_all exact rfl) ?_)
    intro w1 b1 x1 z1
    obtain ⟨gM, hgM⟩ : ∃ g, g = w.heap.size := ⟨_, rfl⟩
    have M_M := Lib.hid (show w.heap.size ≤ gM from by rw [hgM]; exact Nat.le_refl _)
    have B1 := Lib.hid b1
    rw [← hgM] at x1 ⊢
    have M1 : Hid (Mr.At w1 gM (m.raw e t)) := Lib.hid x1
    clear b1 x1 z1 hgM 
    go_wp2_with (with_reducible refine wpList_load_whole_st Mr.isRec rfl _ rfl gM (by with_unfolding_all exact rfl) _ _ (Mr.len _) M1.out ?_)
    refine ((CR w1 B1.out).out).mono ?_
    rintro e2 w2 ⟨rfl, b2⟩
    have M2 : Hid (Mr.At w2 gM (m.raw e t)) := Lib.hid (Whole.below M1.out b2 M1.out.lt)
    have B2 := Lib.hid (B1.out.trans (b2.mono B1.out.size))
    clear b2 M1 B1
    go_wp2
    go_ret2
    exact ⟨_, rfl, BytesAt.nil _, B2.out⟩
end Go.Proofs.Ytnjeopgcpffkcaa

namespace Go.Proofs.Ytnjeopgcpffkcaa
set_option maxRecDepth 100000
open Go.RowKit

def greatB (e : Ent) : Bool := decide (1000 < e.name.length) || decide (1000 < e.tag.length)

set_option maxHeartbeats 1000000 in
theorem great_any (a : Ent) (w : World) :
    Calls Try.prog 24 #[a.val] w fun e w' => e = .returned (.bool (greatB a)) ∧ Below w.heap.size w w' := by
  obtain ⟨n, i, f, u, x, t⟩ := a
  simp only [Ent.val, Ent.enc]
  obtain ⟨b1, h1⟩ : ∃ b, b = decide (1000 < n.length) := ⟨_, rfl⟩
  obtain ⟨b2, h2⟩ : ∃ b, b = decide (1000 < t.length) := ⟨_, rfl⟩
  have HB : Hid (greatB ⟨n, i, f, u, x, t⟩ = (b1 || b2)) := Lib.hid (by rw [greatB, ← h1, ← h2])
  have r1 : decide ((1000 : Int) < (n.length : Int)) = b1 := by rw [h1]; congr 1; apply propext; omega
  have r2 : decide ((1000 : Int) < (t.length : Int)) = b2 := by rw [h2]; congr 1; apply propext; omega
  have r3 := h1.symm
  have r4 := h2.symm
  clear h1 h2
  cases b1 <;> cases b2
  all_goals
    go_enter Try.func24, Try.ntmps24
    go_wp2
    go_ret
    exact ⟨by rw [HB.out]; rfl, (Below.refl _ _).alloc (Nat.le_refl _) _⟩
end Go.Proofs.Ytnjeopgcpffkcaa
