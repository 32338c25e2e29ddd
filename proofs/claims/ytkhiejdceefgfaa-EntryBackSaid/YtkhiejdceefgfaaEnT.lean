/- Package entry, as landed: node, Who, Find. -/
import Derived.Test.YtkhiejdceefgfaaEnC
import Derived.Test.YtkhiejdceefgfaaEnN
namespace Go.Proofs.Ytkhiejdceefgfaa
open Go.RowKit

/-- What an entry tells of its node. -/
def nodeE (a : Ent) : Ent := ⟨a.name, a.id, 0, 0, 0, []⟩
theorem node_same (a b : Ent) : entW a b = decide (nodeE a = nodeE b) := by
  rw [entW, Bool.eq_iff_iff]
  simp [nodeE]

set_option maxHeartbeats 1000000 in
theorem node_any (a : Ent) (w : World) :
    Calls Try.prog 38 #[a.val] w fun e w' => e = .returned (nodeE a).val ∧ Below w.heap.size w w' := by
  go_enter Try.func38, Try.ntmps38
  go_wp2_with (refine wpList_box_row rfl 24 _ rfl a.cells rfl ?_)
  intro w1 b1 x1 z1
  have X1 : Hid (EntAt w1 w.heap.size a) := x1
  have B1 := Lib.hid b1
  have Z1 := Lib.hid z1
  clear b1 x1 z1
  go_wp2_with (refine wpList_alloc_row rfl 24 rfl ent0.cells ent_zero ?_)
  intro w2 b2 x2 z2
  have X2 : Hid (EntAt w2 w.heap.size a) := Lib.hid (X1.out.below b2 (by have := Z1.out; omega))
  have Y2 : Hid (Whole w2 w1.heap.size 24 ent0.cells) := x2
  have B2 := Lib.hid (B1.out.trans (b2.mono B1.out.size))
  have S1 := Lib.hid B1.out.size
  have c0 := X2.out.at_ 0
  have c1 := X2.out.at_ 1
  simp [Ent.cells] at c0 c1
  clear b2 x2 z2 X1 B1 X2
  go_wp2_with (with_reducible refine wpList_store_whole rfl 24 _ _ rfl w1.heap.size (nodeE a).cells (by with_unfolding_all exact rfl) (by with_unfolding_all exact rfl) _ _ Y2.out (ent_size' _) rfl (Ent.cells_one _) ?_)
  intro w3 g3 x3 z3
  have X3 : Hid (EntAt w3 w1.heap.size (nodeE a)) := Lib.hid x3
  have B3 := Lib.hid (B2.out.grown g3 B2.out.size (fun k hk => by injection hk with hk; have := S1.out; omega))
  clear g3 x3 z3 Y2 B2 c0 c1
  go_wp2
  exact bodyPost_ret (results_ent rfl _ _ _ _ rfl X3.out) rfl ⟨rfl, B3.out⟩

set_option maxHeartbeats 1000000 in
theorem who_any (a b : Ent) (w : World) :
    Calls Try.prog 17 #[a.val, b.val] w fun e w' => e = .returned (.bool (entW a b)) ∧ Below w.heap.size w w' := by
  have CA := fun w => Lib.hid (node_any a w)
  have CB := fun w => Lib.hid (node_any b w)
  have HQ := Lib.hid (node_same a b)
  go_enter Try.func17, Try.ntmps17
  go_wp2_with (refine wpList_box_row rfl 24 _ rfl a.enc.toArray (by with_unfolding_all exact rfl) ?_)
  intro w1 b1 x1 z1
  obtain ⟨gP, hgP⟩ : ∃ g, g = w.heap.size := ⟨_, rfl⟩
  have M_P := Lib.hid (show w.heap.size ≤ gP from by rw [hgP]; exact Nat.le_refl _)
  have B1 := Lib.hid b1
  rw [← hgP] at x1 ⊢
  have P1 : Hid (Ent.At w1 gP a) := Lib.hid x1
  clear b1 x1 z1 hgP 
  go_wp2_with (first | (with_reducible refine wpList_load_whole Ent.isRec rfl _ rfl gP (by with_unfolding_all exact rfl) _ _ (Ent.len _) P1.out ?_) | (refine wpList_box_row rfl 24 _ rfl b.enc.toArray (by with_unfolding_all exact rfl) ?_))
  intro w2 b2 x2 z2
  obtain ⟨gQ, hgQ⟩ : ∃ g, g = w1.heap.size := ⟨_, rfl⟩
  have N_P_Q := Lib.hid (show gP < gQ from by rw [hgQ]; exact P1.out.lt)
  have M_Q := Lib.hid (show w.heap.size ≤ gQ from by rw [hgQ]; exact B1.out.size)
  have P2 : Hid (Ent.At w2 gP a) := Lib.hid (Whole.below P1.out b2 P1.out.lt)
  have B2 := Lib.hid (B1.out.trans (b2.mono B1.out.size))
  rw [← hgQ] at x2 ⊢
  have Q2 : Hid (Ent.At w2 gQ b) := Lib.hid x2
  clear b2 x2 z2 hgQ P1 B1
  go_wp2_with (first | (with_reducible refine wpList_load_whole Ent.isRec rfl _ rfl gP (by with_unfolding_all exact rfl) _ _ (Ent.len _) P2.out ?_) | (with_reducible refine wpList_load_whole Ent.isRec rfl _ rfl gQ (by with_unfolding_all exact rfl) _ _ (Ent.len _) Q2.out ?_))
  refine reg_begin (by kernel_rfl) fun w3 b3 z3 => ?_
  have P3 : Hid (Ent.At w3 gP a) := Lib.hid (Whole.below P2.out b3 P2.out.lt)
  have Q3 : Hid (Ent.At w3 gQ b) := Lib.hid (Whole.below Q2.out b3 Q2.out.lt)
  have B3 := Lib.hid (B2.out.trans (b3.mono B2.out.size))
  clear b3 z3 P2 Q2 B2
  refine reg_take (i := 0) (v := Ent.val (a)) rfl (by kernel_rfl) (by kernel_rfl) (by kernel_rfl) (fun _ _ _ h => h) (by rfl) ?hy0 ?_
  case hy0 => intro w' hw'; exact exec_load_whole Ent.isRec _ rfl gP rfl _ _ (Ent.len _) w' (Whole.below P3.out hw' P3.out.lt)
  simp only [Act.put, List.setIfInBounds_toArray, List.set_cons_zero, List.set_cons_succ]
  refine reg_take (i := 2) (v := Ent.val (b)) rfl (by kernel_rfl) (by kernel_rfl) (by kernel_rfl) (fun _ _ _ h => h) (by rfl) ?hy2 ?_
  case hy2 => intro w' hw'; exact exec_load_whole Ent.isRec _ rfl gQ rfl _ _ (Ent.len _) w' (Whole.below Q3.out hw' Q3.out.lt)
  simp only [Act.put, List.setIfInBounds_toArray, List.set_cons_zero, List.set_cons_succ]
  refine reg_call (i := 1) rfl (by kernel_rfl) (fun K' hK => ?_)
  go_simp
  refine ((CA w3).out).mono ?_
  rintro e4 w4 ⟨rfl, b4⟩
  have P4 : Hid (Ent.At w4 gP a) := Lib.hid (Whole.below P3.out b4 P3.out.lt)
  have Q4 : Hid (Ent.At w4 gQ b) := Lib.hid (Whole.below Q3.out b4 Q3.out.lt)
  have B4 := Lib.hid (B3.out.trans (b4.mono B3.out.size))
  refine hK.out _ _ b4 ?_
  clear hK K' b4 P3 Q3 B3
  refine reg_call (i := 3) rfl (by kernel_rfl) (fun K' hK => ?_)
  go_simp
  refine ((CB w4).out).mono ?_
  rintro e5 w5 ⟨rfl, b5⟩
  have P5 : Hid (Ent.At w5 gP a) := Lib.hid (Whole.below P4.out b5 P4.out.lt)
  have Q5 : Hid (Ent.At w5 gQ b) := Lib.hid (Whole.below Q4.out b5 Q4.out.lt)
  have B5 := Lib.hid (B4.out.trans (b5.mono B4.out.size))
  refine hK.out _ _ b5 ?_
  clear hK K' b5 P4 Q4 B4
  refine reg_take (i := 4) (v := .bool (entW a b)) rfl (by kernel_rfl) (by kernel_rfl) (by kernel_rfl) (fun _ _ _ h => h) (by rfl) ?hy4 ?_
  case hy4 => intro w' hw'; exact exec_eq_ent _ _ _ rfl (nodeE a) (nodeE b) rfl rfl _ HQ.out w'
  simp only [Act.put, List.setIfInBounds_toArray, List.set_cons_zero, List.set_cons_succ]
  refine reg_take (i := 5) (v := ?_) rfl (by kernel_rfl) (by kernel_rfl) (by kernel_rfl) (fun _ _ _ h => h) (by rfl) ?hy5 ?_
  case hy5 => intro w' hw'; go_simp; (try with_reducible rfl)
  simp only [Act.put, List.setIfInBounds_toArray, List.set_cons_zero, List.set_cons_succ]
  refine reg_end (by kernel_rfl) ?_
  go_wp2
  go_ret
  exact ⟨rfl, B5.out⟩

set_option maxHeartbeats 1000000 in
theorem find_any (A : Option Addr) (m cap : Nat) (l : List Ent) (n : List UInt8) (w : World) (hm : m ≤ 1000000) (h : EntsAt w (.slice A m cap) l) :
    Calls Try.prog 19 #[.slice A m cap, .string ⟨n.toArray⟩] w fun e w' => e = .returned (.int .i64 (findE n l 0)) ∧ Below w.heap.size w w' := by
  obtain ⟨hlen, -⟩ := h.size
  have H := Lib.hid h
  have HL := Lib.hid hlen
  obtain ⟨R, hR⟩ : ∃ R, R = findE n l 0 := ⟨_, rfl⟩
  have HR : Hid (findE n (l.drop 0) 0 = R) := Lib.hid (by rw [hR]; rfl)
  rw [← hR]
  clear h hlen hR
  go_enter Try.func19, Try.ntmps19
  go_wp2_with fail
  go_loopw [9] (fun i wr => ∃ k : Nat, k ≤ m ∧ i = .int .i64 (k : Int) ∧ findE n (l.drop k) k = R ∧ Below w.heap.size w wr) (fun i _ => m - (intOf i).toNat)
  case atStart => exact ⟨0, Nat.zero_le _, rfl, HR.out, Below.refl _ _⟩
  case round =>
    obtain ⟨k, hk, rfl, hr, hb⟩ := hrel
    have HK := Lib.hid hr
    have B0 := Lib.hid hb
    clear hr hb HR
    by_cases hlt : k < m
    · have dk : decide ((k : Int) < (m : Int)) = true := by simp; omega
      obtain ⟨x, hx⟩ : ∃ x, l[k]? = some x := ⟨_, List.getElem?_eq_getElem (by rw [← HL.out]; exact hlt)⟩
      have hne : l ≠ [] := by rintro rfl; simp at hx
      obtain ⟨b, off, rfl, hbl, hc⟩ := H.out.spots hne
      have HC := Lib.hid (fun j u (hj : x.enc[j]? = some u) => (B0.out.cell (p := ⟨b, off + k * 6 + j, none⟩) hbl).trans (hc k x hx j u (by show x.enc.toArray[j]? = some u; simpa using hj)))
      have HD := Lib.hid (drop_at hx)
      have jk : (k : Int) < (m : Int) := by omega
      have r4 : IntKind.i64.wrap ((k : Int) + 1) = ((k + 1 : Nat) : Int) := by rw [IntWalk.i64_in _ (by omega)]; omega
      clear hc hx hne
      go_wp2_with (first | (with_reducible refine wpList_load_rec Ent.isRec rfl _ rfl b (off + k * 6) (by with_unfolding_all exact rfl) x.enc (Ent.len _) HC.out ?_) | (refine wpList_alloc_row rfl 24 rfl Ent.zero.enc.toArray Ent.zero_is ?_))
      intro w1 b1 x1 z1
      have X1 : Hid (Ent.At w1 wr.heap.size Ent.zero) := Lib.hid x1
      have B1 := Lib.hid (B0.out.trans (b1.mono B0.out.size))
      have S1 := Lib.hid B0.out.size
      clear b1 x1 z1 B0 HC
      go_wp2_with (with_reducible refine wpList_store_whole rfl 24 _ _ rfl wr.heap.size x.enc.toArray (by with_unfolding_all exact rfl) (by with_unfolding_all exact rfl) _ _ X1.out (Ent.size _) rfl (Ent.one _) ?_)
      intro w2 g2 x2 z2
      have c := Ent.At.at_name x2
      have B2 := Lib.hid (B1.out.grown g2 B1.out.size (fun k hk => by injection hk with hk; have := S1.out; omega))
      clear g2 x2 z2 X1 B1
      by_cases hn : x.name = n
      · have r : (x.name == n) = true := by simp [hn]
        have HV : Hid ((k : Int) = R) := Lib.hid (by have q := HK.out; rw [HD.out, findE, if_pos hn] at q; exact q)
        clear hn
        go_wp2
        go_ret
        exact ⟨by rw [← HV.out]; rfl, B2.out⟩
      · have r : (x.name == n) = false := by simp [hn]
        have HV : Hid (findE n (l.drop (k + 1)) (k + 1) = R) := Lib.hid (by have q := HK.out; rw [HD.out, findE, if_neg hn] at q; exact q)
        clear hn
        go_wp2
        exact ⟨⟨k + 1, by omega, by go_num, HV.out, B2.out⟩, by simp [intOf]; omega⟩
    · obtain rfl : k = m := by omega
      have dk : decide ((k : Int) < (k : Int)) = false := by simp
      have HV : Hid ((-1 : Int) = R) := Lib.hid (by have q := HK.out; rw [List.drop_eq_nil_of_le (by rw [← HL.out]; exact Nat.le_refl _)] at q; exact q)
      go_wp2
      go_ret
      exact ⟨by rw [← HV.out]; rfl, B0.out⟩
end Go.Proofs.Ytkhiejdceefgfaa
