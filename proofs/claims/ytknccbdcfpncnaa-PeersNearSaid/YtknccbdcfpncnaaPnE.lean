/- Layer 24 as landed: First, Entries, Before. -/
import Derived.Test.YtknccbdcfpncnaaPnL
import Derived.Test.YtknccbdcfpncnaaSlEnC
import Derived.Test.YtknccbdcfpncnaaEnV
namespace Go.Proofs.Ytknccbdcfpncnaa
set_option maxRecDepth 100000
open Go.RowKit

set_option maxRecDepth 100000
theorem chunks_of {α : Type} (k n : Nat) (xs : List α) (h : xs.length = n * k) : ∃ L : List (List α), L.length = n ∧ (∀ c ∈ L, c.length = k) ∧ L.flatten = xs := by
  induction n generalizing xs with
  | zero => exact ⟨[], rfl, (fun c hc => by cases hc), (by rw [Nat.zero_mul] at h; exact (List.length_eq_zero_iff.1 h).symm)⟩
  | succ n ih =>
    have h2 : (n + 1) * k = n * k + k := Nat.succ_mul n k
    obtain ⟨L, h3, h4, h5⟩ := ih (xs.drop k) (by rw [List.length_drop]; omega)
    refine ⟨xs.take k :: L, by rw [List.length_cons, h3], fun c hc => ?_, by rw [List.flatten_cons, h5, List.take_append_drop]⟩
    rcases List.mem_cons.1 hc with rfl | hc
    · rw [List.length_take]; omega
    · exact h4 c hc
/-- A row of one's own, as one of elements. -/
theorem OwnRows.of_flat {w : World} {base k n : Nat} {e : TypeId} {v : Value} {xs : List Value} (h : w.ownsRow base e k v n xs) : ∃ L, L.length = n ∧ OwnRows w base e k v L := by
  obtain ⟨L, h1, h2, h3⟩ := chunks_of k n xs h.1
  subst h1 h3
  exact ⟨L, rfl, h, h2⟩
theorem set_next {α : Type} (A L : List α) (k : Nat) (x : α) (hA : A.length = k) (hL : k < L.length) : (A ++ L.drop k).set k x = A ++ [x] ++ L.drop (k + 1) := by
  subst hA
  rw [List.set_append_right _ _ (Nat.le_refl _), Nat.sub_self, List.append_assoc]
  congr 1
  rw [List.drop_eq_getElem_cons hL]
  rfl
theorem entEZ : ElemZ Try.prog 39 24 6 := Ent.isElem.z
theorem exec_min_int {ev : Operand → Value} {o : Oper} (x y : Operand) (ho : o.op = .call { callee := .builtin .min, args := #[x, y], argTypes := #[3, 3] }) (a b c : Int) (hx : ev x = .int .i64 a) (hy : ev y = .int .i64 b) (hc : min a b = c) (w : World) :
    (execOp ev o).run Try.prog w = .ok (.value (.int .i64 c)) w := by
  subst hc
  unfold execOp
  simp only [ho, resolve, invoke, builtin, Sem.run_bind, Sem.run_pure, Result.andThen_ok, List.map_toArray, List.map_cons, List.map_nil, hx, hy]
  simp [Builtin.min_, Builtin.min2]
  split <;> omega
theorem exec_max_int {ev : Operand → Value} {o : Oper} (x y : Operand) (ho : o.op = .call { callee := .builtin .max, args := #[x, y], argTypes := #[3, 3] }) (a b c : Int) (hx : ev x = .int .i64 a) (hy : ev y = .int .i64 b) (hc : max a b = c) (w : World) :
    (execOp ev o).run Try.prog w = .ok (.value (.int .i64 c)) w := by
  subst hc
  unfold execOp
  simp only [ho, resolve, invoke, builtin, Sem.run_bind, Sem.run_pure, Result.andThen_ok, List.map_toArray, List.map_cons, List.map_nil, hx, hy]
  simp [Builtin.max_, Builtin.max2]
  split <;> omega
def entsC (l : List Peer) : List (List Value) := l.map fun p => p.entry.enc
theorem entsC_is (l : List Peer) : entsC l = (l.map Peer.entry).map Ent.enc := by rw [entsC, List.map_map]; rfl
set_option maxHeartbeats 1000000 in
theorem first_any (A : Option Addr) (m cap : Nat) (l : List Peer) (n : Int) (base : Nat) (w : World) (hb : base ≤ w.heap.size) (hl : l.length ≤ 100000) (h : RowsAt w (.slice A m cap) 8 (l.map Peer.enc)) :
    Calls Try.prog 22 #[.slice A m cap, .int .i64 n] w fun e w' => ∃ v, e = .returned v ∧ OwnRows w' base 24 6 v ((firstsQ l n).map Ent.enc) ∧ Below w.heap.size w w' := by
  have hm : m = l.length := by have := h.size.1; simpa using this
  subst hm
  have H := Lib.hid h
  have HB := Lib.hid hb
  have HL := Lib.hid hl
  obtain ⟨t, ht⟩ : ∃ t, t = min n.toNat l.length := ⟨_, rfl⟩
  have HF : Hid (firstsQ l n = (l.take t).map Peer.entry) := Lib.hid (by rw [firstsQ, ht, ← List.take_eq_take_min])
  have htl : t ≤ l.length := by omega
  have rt : max 0 (min n (l.length : Int)) = (t : Int) := by omega
  have HT := Lib.hid htl
  clear h hb hl ht htl
  go_enter Try.func22, Try.ntmps22
  go_wp2_with (first | (with_reducible refine wpList_exec rfl _ (exec_min_int _ _ rfl n l.length _ (by with_unfolding_all exact rfl) (by with_unfolding_all exact rfl) rfl _) ?_) | (with_reducible refine wpList_exec rfl _ (exec_max_int _ _ rfl 0 (min n l.length) t (by with_unfolding_all exact rfl) (by with_unfolding_all exact rfl) rt _) ?_) | with_reducible refine wpList_make_rows entEZ rfl _ _ rfl t (by with_unfolding_all exact rfl) (by with_unfolding_all exact rfl) (by have := HT.out; have := HL.out; omega) ?_)
  intro w1 xs o1 b1 z1
  obtain ⟨L, hLn, hO⟩ := OwnRows.of_flat o1
  obtain ⟨g, hg⟩ : ∃ g, g = w.heap.size := ⟨_, rfl⟩
  have HG := Lib.hid hg
  have O1 := Lib.hid hO
  rw [← hg] at O1 ⊢
  have HLN := Lib.hid hLn
  have B1 := Lib.hid b1
  clear o1 b1 z1 hO hLn hg
  go_wp2_with fail
  go_loopw [15] (fun i wr => ∃ k : Nat, k ≤ t ∧ i = .int .i64 (k : Int) ∧ OwnRows wr g 24 6 (.slice (some ⟨g, 0, none⟩) t t) (entsC (l.take k) ++ L.drop k) ∧ Below w.heap.size w wr) (fun i _ => t - (intOf i).toNat)
  case atStart => exact ⟨0, Nat.zero_le _, rfl, O1.out, B1.out⟩
  case round =>
    obtain ⟨k, hk, rfl, ho, hb⟩ := hrel
    have O0 := Lib.hid ho
    have B0 := Lib.hid hb
    clear ho hb O1 B1
    by_cases hlt : k < t
    · have dk : decide ((k : Int) < (t : Int)) = true := by simp; omega
      have hkl : k < l.length := by have := HT.out; omega
      obtain ⟨x, hx⟩ : ∃ x, l[k]? = some x := ⟨_, List.getElem?_eq_getElem hkl⟩
      obtain ⟨b, off, rfl, hc⟩ := row_ofPe H.out hx
      have HX : Hid (∀ q u, x.entry.enc[q]? = some u → wr.cell? ⟨b, off + k * 8 + q, none⟩ = some u) := Lib.hid (fun q u hu => hc wr B0.out q u (entry_cells x hu))
      have jk : (k : Int) < (l.length : Int) := by omega
      have jt : (k : Int) < (t : Int) := by omega
      have r4 : IntKind.i64.wrap ((k : Int) + 1) = ((k + 1 : Nat) : Int) := by have := HL.out; rw [IntWalk.i64_in _ (by omega)]; omega
      have HIL : Hid (k < (entsC (l.take k) ++ L.drop k).length) := Lib.hid (by have := HLN.out; rw [List.length_append, entsC, List.length_map, List.length_take, List.length_drop]; omega)
      have HS : Hid ((entsC (l.take k) ++ L.drop k).set k x.entry.enc = entsC (l.take (k + 1)) ++ L.drop (k + 1)) := Lib.hid (by
        rw [set_next _ _ _ _ (by rw [entsC, List.length_map, List.length_take]; omega) (by have := HLN.out; omega), List.take_add_one, hx]
        simp [entsC])
      clear hc hx hkl
      go_wp2_with (first | (with_reducible refine wpList_load_rec Ent.isRec rfl _ rfl b (off + k * 8) (by with_unfolding_all exact rfl) x.entry.enc (Ent.len _) HX.out ?_) | (with_reducible refine wpList_put_row (k := 6) rfl _ _ rfl (by with_unfolding_all exact Ent.size x.entry) _ _ _ k g O0.out HIL.out rfl (by with_unfolding_all exact rfl) x.entry.enc (by with_unfolding_all exact rfl) (Ent.len _) (fun u hu => (Ent.fits _).one u hu) ?_))
      intro w5 o5 q5 z5
      have O5 : Hid (OwnRows w5 g 24 6 (.slice (some ⟨g, 0, none⟩) t t) (entsC (l.take (k + 1)) ++ L.drop (k + 1))) := Lib.hid (o5.eqL HS.out)
      have B5 := Lib.hid (B0.out.grown q5 B0.out.size (fun k hk => by injection hk with hk; have := HG.out; omega))
      clear o5 q5 z5 O0 B0
      go_wp2
      exact ⟨⟨k + 1, by omega, by go_num, O5.out, B5.out⟩, by simp [intOf]; omega⟩
    · have hkt : k = t := by omega
      have dk : decide ((k : Int) < (t : Int)) = false := by simp; omega
      have HV : Hid (OwnRows wr g 24 6 (.slice (some ⟨g, 0, none⟩) t t) ((firstsQ l n).map Ent.enc)) := Lib.hid (O0.out.eqL (by rw [hkt, List.drop_eq_nil_of_le (by rw [HLN.out]; exact Nat.le_refl _), List.append_nil, HF.out, entsC_is]))
      clear O0
      go_wp2
      go_ret
      exact ⟨_, rfl, HV.out.less (by rw [HG.out]; exact HB.out), B0.out⟩

theorem firstsQ_all (l : List Peer) : firstsQ l (l.length : Int) = l.map Peer.entry := by rw [firstsQ, Int.toNat_natCast, List.take_length]
set_option maxHeartbeats 1000000 in
theorem entries_any (A : Option Addr) (m cap : Nat) (l : List Peer) (base : Nat) (w : World) (hb : base ≤ w.heap.size) (hl : l.length ≤ 100000) (h : RowsAt w (.slice A m cap) 8 (l.map Peer.enc)) :
    Calls Try.prog 24 #[.slice A m cap] w fun e w' => ∃ v, e = .returned v ∧ OwnRows w' base 24 6 v ((l.map Peer.entry).map Ent.enc) ∧ Below w.heap.size w w' := by
  have hm : m = l.length := by have := h.size.1; simpa using this
  subst hm
  have C := first_any A l.length cap l l.length base w hb hl h
  rw [firstsQ_all] at C
  have C := Lib.hid C
  clear h hb hl
  go_enter Try.func24, Try.ntmps24
  go_wp2_with fail
  refine C.out.mono ?_
  rintro e w1 ⟨v, rfl, o1, b1⟩
  have O1 := Lib.hid o1
  have B1 := Lib.hid b1
  clear o1 b1 C
  go_wp2
  go_ret
  exact ⟨v, rfl, O1.out, B1.out⟩

theorem beforeQ_at {me : Ent} {l : List Peer} {k : Nat} {x : Peer} (hx : l[k]? = some x) (hk : l.length = k + 1) : beforeQ me l = x.entry.id := by
  rw [beforeQ, List.getLast?_eq_getElem?, hk, Nat.add_sub_cancel, hx]; rfl
set_option maxHeartbeats 1000000 in
theorem before_any (A : Option Addr) (m cap : Nat) (l : List Peer) (me : Ent) (w : World) (hl : l.length ≤ 100000) (h : RowsAt w (.slice A m cap) 8 (l.map Peer.enc)) :
    Calls Try.prog 26 #[me.val, .slice A m cap] w fun e w' => e = .returned (.int .u64 (beforeQ me l : Int)) ∧ Below w.heap.size w w' := by
  have hm : m = l.length := by have := h.size.1; simpa using this
  subst hm
  have H := Lib.hid h
  have HL := Lib.hid hl
  clear h hl
  go_enter Try.func26, Try.ntmps26
  go_wp2_with (refine wpList_box_row rfl 24 _ rfl me.enc.toArray (by with_unfolding_all exact rfl) ?_)
  intro w1 b1 x1 z1
  obtain ⟨gE, hgE⟩ : ∃ g, g = w.heap.size := ⟨_, rfl⟩
  have M_E := Lib.hid (show w.heap.size ≤ gE from by rw [hgE]; exact Nat.le_refl _)
  have B1 := Lib.hid b1
  rw [← hgE] at x1 ⊢
  have E1 : Hid (Ent.At w1 gE me) := Lib.hid x1
  clear b1 x1 z1 hgE 
  by_cases h0 : l.length = 0
  · have d : ((l.length : Int) == 0) = true := by rw [beq_iff_eq]; omega
    have c1 := Ent.At.at_id E1.out
    have HV : Hid (beforeQ me l = me.id) := Lib.hid (by rw [List.length_eq_zero_iff] at h0; subst h0; rfl)
    clear h0
    go_wp2
    go_ret
    exact ⟨by rw [HV.out]; rfl, B1.out⟩
  · have d : ((l.length : Int) == 0) = false := by rw [beq_eq_false_iff_ne]; omega
    obtain ⟨k, hk⟩ : ∃ k, l.length = k + 1 := ⟨l.length - 1, by omega⟩
    obtain ⟨x, hx⟩ : ∃ x, l[k]? = some x := ⟨_, List.getElem?_eq_getElem (by omega)⟩
    obtain ⟨b, off, rfl, hc⟩ := row_ofPe H.out hx
    have c1 : w1.cell? ⟨b, off + k * 8 + 1, none⟩ = some (.int .u64 (x.entry.id : Int)) := hc _ B1.out 1 _ rfl
    have r5 : IntKind.i64.wrap ((l.length : Int) - 1) = (k : Int) := by have := HL.out; rw [IntWalk.i64_in _ (by omega)]; omega
    have jk : (k : Int) < (l.length : Int) := by omega
    have HV : Hid (beforeQ me l = x.entry.id) := Lib.hid (beforeQ_at hx hk)
    clear h0 hx hc hk
    go_wp2
    go_ret
    exact ⟨by rw [HV.out]; rfl, B1.out⟩
end Go.Proofs.Ytknccbdcfpncnaa
