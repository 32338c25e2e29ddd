/- What package arc's Order answers: a new slice of the places in order. -/
import Derived.Test.YtlgpgdliakiomaaAcD
import Derived.Test.YtlgpgdliakiomaaSoC
import Derived.Test.YtlgpgdliakiomaaUc
namespace Go.Proofs.Ytlgpgdliakiomaa
open Go.RowKit Go.Sort Go.Shelf

theorem insR_perm (a x : Nat) (l : List Nat) : (insR a x l).Perm (x :: l) := by
  induction l with
  | nil => exact List.Perm.refl _
  | cons y l ih =>
    rw [insR]
    split
    · exact List.Perm.refl _
    · exact (ih.cons y).trans (List.Perm.swap x y l)
theorem orderTo_perm (a : Nat) (ids : List Nat) (k : Nat) (hk : k ≤ ids.length) : (orderTo a ids k).Perm (ids.take k) := by
  induction k with
  | zero => simp [orderTo]
  | succ k ih =>
    have e : ids.getD k 0 = ids[k]'(by omega) := by simp [List.getD, List.getElem?_eq_getElem (show k < ids.length by omega)]
    rw [orderTo, List.take_succ_eq_append_getElem (by omega), e]
    exact (insR_perm _ _ _).trans (((ih (by omega)).cons _).trans (List.perm_append_comm (l₁ := [_]) (l₂ := _)))
theorem orderL_perm (a : Nat) (ids : List Nat) : (orderL a ids).Perm ids := by
  have := orderTo_perm a ids ids.length (Nat.le_refl _)
  rw [List.take_of_length_le (Nat.le_refl _)] at this
  exact this
/-- There is one order alone. -/
theorem order_one (a : Nat) (ids l : List Nat) (ha : a < 18446744073709551616) (hids : ∀ x ∈ ids, x < 18446744073709551616) (hp : l.Perm ids) (hr : l.Pairwise fun x y => distW a x ≤ distW a y) : l = orderL a ids := by
  have hl : ∀ x ∈ l, x < 18446744073709551616 := fun x hx => hids x (hp.mem_iff.1 hx)
  have hr2 : Rising a l := by
    refine List.Pairwise.imp_of_mem ?_ hr
    intro x y hx hy h
    rw [distW_dist _ _ ha (hl x hx), distW_dist _ _ ha (hl y hy)] at h
    exact h
  refine List.Perm.eq_of_pairwise (le := fun x y => distN a x ≤ distN a y) ?_ hr2 (orderTo_rising a ids ids.length) (hp.trans (orderL_perm a ids).symm)
  intro x y hx hy h1 h2
  exact distN_inj a x y ha (hl x hx) (hids y ((orderL_perm a ids).mem_iff.1 hy)) (Nat.le_antisymm h1 h2)

theorem swo_met (a : Nat) : SWO (ltOf (metZ a)) := by
  have e : ∀ x y, ltOf (metZ a) x y = decide (distW a x < distW a y) := fun x y => by
    rw [ltOf, metZ, cmpZ]
    (repeat' split) <;> simp <;> omega
  refine ⟨fun x => ?_, fun x y z => ?_, fun x y z => ?_⟩ <;> simp only [e, decide_eq_true_eq, decide_eq_false_iff_not] <;> omega
theorem lt_met (a x y : Nat) (h : ltOf (metZ a) x y = false) : distW a y ≤ distW a x := by
  rw [ltOf, metZ, cmpZ] at h
  (repeat' split at h) <;> simp at h <;> omega
/-- What the sort asks of the function. -/
theorem met_lays (a B blk size : Nat) (w : World) (hc : w.cell? ⟨B, 0, none⟩ = some (.int .u64 (a : Int))) (hB : B < w.heap.size) (hne : B ≠ blk) : CmpLays1 Try.prog 25 #[.pointer (some ⟨B, 0, none⟩)] encU (metZ a) blk 0 size w := by
  intro m os dk _ x y
  have hw : (sortWorld encU w blk 0 m dk os).cell? ⟨B, 0, none⟩ = some (.int .u64 (a : Int)) := by
    unfold sortWorld
    rw [cell?_grow _ _ _ (by simp; exact hB), cell?_putRow_other encU _ blk 0 _ _ (Or.inl hne)]
    exact hc
  refine (met_any B a x y _ hw).mono ?_
  rintro e w' ⟨rfl, q, rfl⟩
  exact ⟨rfl, q, #[], by rw [grow_empty]⟩
theorem below_sorted {w : World} {g : Nat} {d d0 : Array Nat} {w' : World} (h : SW encU w g 0 d w') (_ : d.size = d0.size) : w.grownBy w' (some g) := by
  obtain ⟨n, os, rfl⟩ := h
  refine ⟨rfl, rfl, rfl, by simp [sortWorld], fun k hk hne => ?_⟩
  unfold sortWorld
  rw [heap_grow_old _ _ (by simpa using hk)]
  have : g ≠ k := fun e => hne (by rw [e])
  simp [putRow, mapBlock, Sort.ahead, Array.getElem?_modify, this]
theorem holds_us {w : World} {g : Nat} {t : TypeId} {l : List Nat} (h : Whole w g t (us l).toArray) : Holds encU w g 0 l.toArray := by
  intro j hj
  have hj' : j < l.length := by simpa using hj
  refine ⟨?_, h.free _⟩
  rw [h.at_]
  simp [us, encU, hj']
theorem us_holds {w : World} {g n : Nat} {d : Array Nat} (h : Holds encU w g 0 d) (hn : n = d.size) : UsAt w (.slice (some ⟨g, 0, none⟩) n n) d.toList := by
  subst hn
  refine ⟨_, d.size, by rw [Array.length_toList], by simp, fun _ => ⟨_, rfl, fun j c hj => ?_⟩⟩
  have hj2 : j < d.size := by
    have := (List.getElem?_eq_some_iff.1 hj).1
    simpa using this
  have ha : (⟨g, 0, none⟩ : Addr).add j = ⟨g, j, none⟩ := by unfold Addr.add; split <;> simp_all
  have := (h j hj2).1
  rw [Nat.zero_add] at this
  rw [ha, this]
  have e : d[j]! = c := by
    rw [getElem!_pos d j hj2]
    have := (List.getElem?_eq_some_iff.1 hj).2
    simpa using this
  rw [e]
  rfl

set_option maxRecDepth 100000 in
set_option maxHeartbeats 2000000 in
theorem order_all (A : Option Addr) (n cap a : Nat) (ids : List Nat) (w : World) (ha : a < 18446744073709551616) (hids : ∀ x ∈ ids, x < 18446744073709551616) (hn : n ≤ 100000) (h : UsAt w (.slice A n cap) ids) :
    Calls Try.prog 17 #[.int .u64 (a : Int), .slice A n cap] w fun e w' => ∃ v', e = .returned v' ∧ UsAt w' v' (orderL a ids) ∧ Below w.heap.size w w' := by
  have H := Lib.hid h
  have HN := Lib.hid (And.intro h.size.1 hn)
  have HI := Lib.hid (And.intro ha hids)
  clear h hn ha hids
  go_enter Try.func17, Try.ntmps17
  go_wp2_with (refine wpList_make_us rfl _ _ rfl n rfl rfl (by have := HN.out; omega) ?_)
  intro w1 g1 b1 s1
  have G1 := Lib.hid g1
  have B1 := Lib.hid b1
  have S1 := Lib.hid s1
  clear g1 b1 s1
  obtain ⟨g, hg⟩ : ∃ g, g = w.heap.size := ⟨_, rfl⟩
  have HG : Aside (g = w.heap.size) := hg
  rw [← hg] at G1 S1 ⊢
  clear hg
  obtain ⟨w2, hr, g2, b2, s2⟩ := run_copy_in_us w1 3 g n n 22 (List.replicate n 0) _ ids G1.out (by simp) (H.out.below B1.out) n (by have := HN.out; omega)
  have e2 : ids.take n ++ (List.replicate n 0).drop n = ids := by
    have := HN.out
    rw [List.take_of_length_le (by omega), List.drop_eq_nil_of_le (by simp), List.append_nil]
  rw [e2] at g2
  have G2 := Lib.hid g2
  have B2 : Hid (Below w.heap.size w w2) := Lib.hid (B1.out.grown b2 B1.out.size (fun k hk => by injection hk with hk; have := HG.out; omega))
  have S2 : Hid (g < w2.heap.size) := Lib.hid (by rw [s2]; exact S1.out)
  clear g2 b2 s2 e2
  obtain ⟨B, hB⟩ : ∃ B, B = w2.heap.size := ⟨_, rfl⟩
  have C := Lib.hid (order_any a w2)
  rw [← hB] at C
  have HB : Aside (B = w2.heap.size) := hB
  clear hB
  obtain ⟨w3, hw3⟩ : ∃ w3, w3 = w2.alloc (.cells #[.int .u64 (a : Int)] 22) := ⟨_, rfl⟩
  rw [← hw3] at C
  have G3 : Hid (Whole w3 g 22 (us ids).toArray) := Lib.hid (by rw [hw3]; exact G2.out.alloc _)
  have B3 : Hid (Below w.heap.size w w3) := Lib.hid (by rw [hw3]; exact B2.out.alloc B2.out.size _)
  have K3 : Hid (w3.cell? ⟨B, 0, none⟩ = some (.int .u64 (a : Int))) := Lib.hid (by rw [hw3, HB.out]; exact (Whole.new w2 _ _).at_ 0)
  have S3 : Hid (g < w3.heap.size ∧ B < w3.heap.size ∧ B ≠ g) := Lib.hid (by
    have h1 := S2.out
    have h2 := HB.out
    have h3 : w3.heap.size = w2.heap.size + 1 := by rw [hw3]; simp
    omega)
  clear hw3
  have hz : ids.toArray.size = n := by have := HN.out; simp; omega
  have C2 := Lib.hid (sortStable_any 25 #[.pointer (some ⟨B, 0, none⟩)] (metZ a) (swo_met a) g 0 n ids.toArray w3 (enters_of Try.func25 (by kernel_rfl) rfl) (met_lays a B g _ w3 K3.out S3.out.2.1 S3.out.2.2) ⟨fun _ => rfl, holds_us G3.out, S3.out.1⟩ (by rw [hz]; have := HN.out; omega))
  rw [hz] at C2
  clear hz
  go_wp2_with (first | (go_at_call 23; refine C.out.mono ?_; rintro e wx ⟨rfl, rfl⟩) | (go_at_call 22; refine C2.out.mono ?_; rintro e w4 ⟨rfl, d', s4, p4, o4⟩))
  go_ret
  have hn := HN.out
  have hd : d'.size = n := p4.1.trans (by simp; omega)
  have ep : d'.toList.Perm ids := by
    have := p4.2.2
    have e1 : d'.extract 0 n = d' := by rw [← hd]; exact Array.extract_size
    have e2 : ids.toArray.extract 0 n = ids.toArray := by
      have : n = ids.toArray.size := by simp; omega
      rw [this]
      exact Array.extract_size
    rw [e1, e2] at this
    simpa using this
  have er : d'.toList.Pairwise fun x y => distW a x ≤ distW a y := by
    rw [List.pairwise_iff_getElem]
    intro i j hi hj hij
    have hj2 : j < d'.size := by simpa using hj
    have := lt_met a _ _ (o4 i j (Nat.zero_le _) hij (by omega))
    rw [getElem!_pos d' j hj2, getElem!_pos d' i (by omega)] at this
    simpa using this
  refine ⟨_, rfl, ?_, B3.out.grown (below_sorted s4 (d0 := d') rfl) B3.out.size (fun k hk => by injection hk with hk; have := HG.out; omega)⟩
  rw [← order_one a ids d'.toList HI.out.1 HI.out.2 ep er]
  exact us_holds (s4.holds S3.out.1 (holds_us G3.out) (by simp; omega)) hd.symm
end Go.Proofs.Ytlgpgdliakiomaa
