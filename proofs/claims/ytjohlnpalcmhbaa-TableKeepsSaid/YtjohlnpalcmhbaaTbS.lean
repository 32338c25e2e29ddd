/- Layer 23: slices of sessions: what the document's Drop, Put, Close, Same answer; words for what is made anew within a region. -/
import Derived.Test.YtjohlnpalcmhbaaTbC
import Derived.Test.YtjohlnpalcmhbaaUs
namespace Go.Proofs.Ytjohlnpalcmhbaa
set_option maxRecDepth 100000
open Go.RowKit

/-- An empty literal. -/
def LitAt (w : World) (base g : Nat) : Prop := OwnRows w base 36 20 (.slice (some ⟨g, 0, none⟩) 0 0) []
theorem LitAt.below {w w' : World} {base g : Nat} (h : LitAt w base g) (b : Below w.heap.size w w') : LitAt w' base g := OwnRows.below h b rfl
section
variable {ops : Array Oper} {rest : List Oper} {o : Oper} {a : Act} {w : World} {K : Act → World → Prop} {Q : Exit → Act → World → Prop} {base : Nat}
theorem run_build_0 (w : World) : (Instr.buildSlice 22 0 #[]).run Try.prog w = .ok (.slice (some ⟨w.heap.size, 0, none⟩) 0 0) (w.alloc (.cells #[] 36)) := by
  obtain ⟨i, h1, h2, h3⟩ := Ses.info
  have e : Array.range 0 = #[] := rfl
  simp [Instr.buildSlice, run_underlying Try.underlying22, sizeOf, typeInfo, h1, newRow, newObj, Instr.fill, e]
  rfl
theorem wp_build_0 (ho : o.op = .buildSlice 22 0 #[]) (hb : base ≤ w.heap.size)
    (h : ∀ w', Below w.heap.size w w' → LitAt w' base w.heap.size → K (a.put o.dst (.slice (some ⟨w.heap.size, 0, none⟩) 0 0)) w') : o.wp Try.prog a w K Q := by
  have q := h (w.alloc (.cells #[] 36)) ((Below.refl _ _).alloc (Nat.le_refl _) _) ⟨World.ownsRow_made w #[] 0 hb (by decide) rfl, fun c hc => by cases hc⟩
  unfold Oper.wp execOp
  simp only [ho, List.map_toArray, List.map_nil, run_build_0, Sem.run_bind, Sem.run_pure, Result.andThen_ok, Oper.upon]
  exact q
theorem wpList_build_0 (hgd : o.guard = none) (ho : o.op = .buildSlice 22 0 #[]) (hb : base ≤ w.heap.size)
    (h : ∀ w', Below w.heap.size w w' → LitAt w' base w.heap.size → wpList Try.prog ops Q rest (a.put o.dst (.slice (some ⟨w.heap.size, 0, none⟩) 0 0)) w') : wpList Try.prog ops Q (o :: rest) a w :=
  wpList_plain hgd fun _ hK => wp_build_0 ho hb fun w' h1 h2 => hK _ _ (h w' h1 h2)
theorem wp_one_ses (y : Operand) (ho : o.op = .buildSlice 22 1 #[(0, y)]) (x : Ses) (hy : a.eval y = x.val)
    (h : ∀ w', Below w.heap.size w w' → RowsAt w' (.slice (some ⟨w.heap.size, 0, none⟩) 1 1) 20 ([x].map Ses.enc) → K (a.put o.dst (.slice (some ⟨w.heap.size, 0, none⟩) 1 1)) w') : o.wp Try.prog a w K Q := by
  obtain ⟨i, h1, h2, h3⟩ := Ses.info
  have hr := run_buildSlice (P := Try.prog) (w := w) Try.underlying22 h1 h2 1 (by rw [h3]; decide) (by rw [h3]; decide) #[(0, x.val)] x.enc.toArray (by rw [h3]; exact Ses.build_one x)
  have q := h (w.alloc (.cells x.enc.toArray 36)) ((Below.refl _ _).alloc (Nat.le_refl _) _) (rows_one (Whole.new w 36 x.enc.toArray) (Nat.le_refl _))
  unfold Oper.wp execOp
  simp only [ho, List.map_toArray, List.map_cons, List.map_nil, hy, hr, Sem.run_bind, Sem.run_pure, Result.andThen_ok, Oper.upon]
  exact q
theorem ses_all (l : List Ses) : ∀ c ∈ l.map Ses.enc, Fits Ses.ks c := fun c hc => by obtain ⟨y, _, rfl⟩ := List.mem_map.1 hc; exact Ses.fits _
/-- Put behind an empty literal: nothing that was there is changed. -/
theorem run_append_lit (ty : TypeId) (g : Nat) (hown : LitAt w base g) (src : Value) (l : List Ses) (hs : RowsAt w src 20 (l.map Ses.enc)) (hl : l.length ≤ 1000000) (hb : base ≤ w.heap.size) :
    ∃ v' w', (Builtin.append_ #[22, 22] ty #[.slice (some ⟨g, 0, none⟩) 0 0, src]).run Try.prog w = .ok v' w' ∧ OwnRows w' base 36 20 v' (l.map Ses.enc) ∧ Below w.heap.size w w' := by
  obtain ⟨i0, z, hi0, hz, hsz, hzs, hby⟩ := Ses.isElem.zero
  have hsz' : i0.size = 20 := hsz
  have hzs' : z.cells.size = 20 := hzs
  obtain ⟨A, cap, rfl, hcap, hc⟩ := id hs
  by_cases hne : l = []
  · subst hne
    rcases hown.1.2 with ⟨h1, -⟩ | ⟨g', cap', cur, h1, hb', hg, hnc, hcm, hcs, htake⟩
    · cases h1
    injection h1 with h1 h2 h3
    injection h1 with h1
    injection h1 with h1
    subst h1 h3
    simp only [List.map_nil, List.length_nil]
    cases A with
    | none => exact ⟨_, w, run_append_nothing w base _ ty _ i0 20 Try.underlying22 hi0 (.slice (some ⟨g, 0, none⟩) 0 0) 0 [] hown.1 cap, hown, Below.refl _ _⟩
    | some ad =>
      have hr := run_append_room (P := Try.prog) w 22 ty 36 i0 Try.underlying22 hi0 g 0 0 cur hg ad 0 cap [] (by simp) (fun j u h => by simp at h) (fun u h => by cases h) (by omega) (by simp)
      refine ⟨.slice (some ⟨g, 0, none⟩) 0 0, w, ?_, hown, Below.refl _ _⟩
      rw [hr]
      simp
      rw [setRow_self w g cur _ _ hg]
  · have hM : l.map Ses.enc ≠ [] := by simpa using hne
    obtain ⟨ad, rfl, -⟩ := hc hM
    have hpos : 0 < l.length := List.length_pos_iff.2 hne
    have hMk : ∀ c ∈ l.map Ses.enc, c.length = 20 := fun c hc => (ses_all l c hc).len
    have hfl : (l.map Ses.enc).flatten.length = l.length * 20 := by rw [flat_len hMk, List.length_map]
    have hcells : ∀ j u, (l.map Ses.enc).flatten[j]? = some u → w.cell? (ad.add j) = some u := fun j u hj => by
      obtain ⟨ad', e', hcell⟩ := hc hM
      injection e' with e'
      subst e'
      have hjl := (List.getElem?_eq_some_iff.1 hj).1
      rw [flat_len hMk] at hjl
      have hq : j / 20 < (l.map Ses.enc).length := Nat.div_lt_of_lt_mul (by rw [Nat.mul_comm]; exact hjl)
      have h1 : (l.map Ses.enc)[j / 20]? = some (l.map Ses.enc)[j / 20] := List.getElem?_eq_getElem hq
      have hl : ((l.map Ses.enc)[j / 20]).length = 20 := hMk _ (List.getElem_mem hq)
      have hr : j % 20 < ((l.map Ses.enc)[j / 20]).length := by rw [hl]; exact Nat.mod_lt _ (by decide)
      have h2 : ((l.map Ses.enc)[j / 20])[j % 20]? = some ((l.map Ses.enc)[j / 20])[j % 20] := List.getElem?_eq_getElem hr
      have h3 := flat_at hMk _ _ h1 _ _ h2
      have hdm : j / 20 * 20 + j % 20 = j := by rw [Nat.mul_comm]; exact Nat.div_add_mod j 20
      rw [hdm] at h3
      rw [h3] at hj
      have h4 := hcell _ _ h1 _ _ h2
      rw [hdm] at h4
      rw [h4]
      exact hj
    have hb1 : l.length * i0.bytes ≤ 1000000 * 8000 := Nat.mul_le_mul hl hby
    have hr := run_append_grow (P := Try.prog) w 22 ty 36 i0 z Try.underlying22 hi0 hz ⟨g, 0, none⟩ 0 0 [] (by simp) (fun j v h => by simp at h) ad l.length cap (l.map Ses.enc).flatten (by rw [hfl, hsz']) hcells (by omega) (by omega) (by rw [Nat.zero_add, nextslicecap_zero hpos]; exact Nat.le_trans hb1 (by decide))
    rw [Nat.zero_add] at hr
    have hge := grownCap_ge w l.length 0 36
    have hcm : grownCap w l.length 0 36 ≤ maxLen := grownCap_le_maxLen w _ _ _ (by simp only [maxLen]; omega)
    have hln : (l.map Ses.enc).length = l.length := List.length_map _
    rw [hln]
    refine ⟨_, _, hr, ⟨⟨by rw [hfl, hln], .inr ⟨w.heap.size, _, _, by rw [hln], hb, heap_alloc_new w.drew _, by rw [hln]; exact hge, hcm, ?_, ?_⟩⟩, hMk⟩, (Below.refl w.heap.size w).drew.alloc (Nat.le_refl _) _⟩
    · simp only [Array.size_append, List.size_toArray, size_zeroCells, hzs', hfl, List.length_nil]
      omega
    · rw [hln, ← hfl]
      simp only [Array.toList_append, List.nil_append]
      exact List.take_left
theorem wp_append_lit (s x : Operand) (ho : o.op = .call { callee := .builtin .append, args := #[s, x], argTypes := #[22, 22] }) (g : Nat) (hv : a.eval s = .slice (some ⟨g, 0, none⟩) 0 0) (hown : LitAt w base g) (src : Value) (l : List Ses) (hx : a.eval x = src) (hs : RowsAt w src 20 (l.map Ses.enc)) (hl : l.length ≤ 1000000) (hb : base ≤ w.heap.size)
    (h : ∀ v' w', Below w.heap.size w w' → OwnRows w' base 36 20 v' (l.map Ses.enc) → K (a.put o.dst v') w') : o.wp Try.prog a w K Q := by
  obtain ⟨v', w', hr, h2, h3⟩ := run_append_lit o.type g hown src l hs hl hb
  unfold Oper.wp execOp
  simp only [ho, resolve, invoke, builtin, Sem.run_bind, Sem.run_pure, Result.andThen_ok, List.map_toArray, List.map_cons, List.map_nil, hv, hx, hr]
  exact h v' w' h3 h2
theorem wpList_append_lit (hgd : o.guard = none) (s x : Operand) (ho : o.op = .call { callee := .builtin .append, args := #[s, x], argTypes := #[22, 22] }) (g : Nat) (hv : a.eval s = .slice (some ⟨g, 0, none⟩) 0 0) (hown : LitAt w base g) (src : Value) (l : List Ses) (hx : a.eval x = src) (hs : RowsAt w src 20 (l.map Ses.enc)) (hl : l.length ≤ 1000000) (hb : base ≤ w.heap.size)
    (h : ∀ v' w', Below w.heap.size w w' → OwnRows w' base 36 20 v' (l.map Ses.enc) → wpList Try.prog ops Q rest (a.put o.dst v') w') : wpList Try.prog ops Q (o :: rest) a w :=
  wpList_plain hgd fun _ hK => wp_append_lit s x ho g hv hown src l hx hs hl hb fun v' w' h1 h2 => hK _ _ (h v' w' h1 h2)
/-- Put behind a row of one's own. -/
theorem wp_append_last (s x : Operand) (ho : o.op = .call { callee := .builtin .append, args := #[s, x], argTypes := #[22, 22] }) (v : Value) (L : List Ses) (hv : a.eval s = v) (hown : OwnRows w base 36 20 v (L.map Ses.enc)) (src : Value) (l : List Ses) (hx : a.eval x = src) (hs : RowsAt w src 20 (l.map Ses.enc)) (hl : L.length + l.length ≤ 1000000) (hb : base ≤ w.heap.size)
    (h : ∀ v' w', Below base w w' → OwnRows w' base 36 20 v' ((L ++ l).map Ses.enc) → K (a.put o.dst v') w') : o.wp Try.prog a w K Q :=
  wp_append_rows Ses.isElem s x ho v hv hown src (l.map Ses.enc) hx hs (ses_all l) (by rw [List.length_map, List.length_map]; omega) hb fun v' w' h2 h3 =>
    h v' w' ((Below.refl base w).grown h3 hb (fun k hk => (hown.lt k hk).1)) (h2.eqL (by rw [List.map_append]))
end

set_option maxRecDepth 100000 in
set_option maxHeartbeats 1000000 in
theorem refDrop_any (A : Option Addr) (m cap : Nat) (l : List Ses) (i : Int) (base : Nat) (w : World) (hb : base ≤ w.heap.size) (hl : l.length ≤ 100000) (h : RowsAt w (.slice A m cap) 20 (l.map Ses.enc)) :
    Calls Try.prog 25 #[.slice A m cap, .int .i64 i] w fun e w' => ∃ v, e = .returned v ∧ OwnRows w' base 36 20 v ((dropS l i).map Ses.enc) ∧ Below w.heap.size w w' := by
  have hm : m = l.length := by have := h.size.1; simpa using this
  subst hm
  have H := Lib.hid h
  have HB := Lib.hid hb
  have HL := Lib.hid hl
  clear h hb hl
  go_enter Try.func25, Try.ntmps25
  go_wp2_with fail
  go_loopw [5, 6] (fun v j wr => ∃ k : Nat, k ≤ l.length ∧ j = .int .i64 (k : Int) ∧ OwnRows wr w.heap.size 36 20 v ((dropS (l.take k) i).map Ses.enc) ∧ Below w.heap.size w wr) (fun _ j _ => l.length - (intOf j).toNat)
  case atStart => exact ⟨0, Nat.zero_le _, rfl, (OwnRows.nil _ _ _ _).eqL (by rw [List.take_zero, dropS]; split <;> rfl), Below.refl _ _⟩
  case round =>
    obtain ⟨k, hk, rfl, ho, hb⟩ := hrel
    have O0 := Lib.hid ho
    have B0 := Lib.hid hb
    clear ho hb
    by_cases hlt : k < l.length
    · have dk : decide ((k : Int) < (l.length : Int)) = true := by simp; omega
      obtain ⟨x, hx⟩ : ∃ x, l[k]? = some x := ⟨_, List.getElem?_eq_getElem hlt⟩
      obtain ⟨b, off, rfl, hc⟩ := ses_row H.out hx
      have HX := Lib.hid (hc wr B0.out)
      have jk : (k : Int) < (l.length : Int) := by omega
      have r4 : IntKind.i64.wrap ((k : Int) + 1) = ((k + 1 : Nat) : Int) := by have := HL.out; rw [IntWalk.i64_in _ (by omega)]; omega
      have HS := Lib.hid (dropS_step l i k x hx)
      have HN : Hid (((dropS (l.take k) i).map Ses.enc).length + [x.enc].length ≤ 10000000) := Lib.hid (by have h1 := dropS_length (l.take k) i; have := HL.out; rw [List.length_take] at h1; rw [List.length_map, List.length_singleton]; omega)
      clear hc hx
      by_cases he : (k : Int) = i
      · have d5 : ((k : Int) != i) = false := by rw [bne_eq_false_iff_eq]; exact he
        have HE : Hid (dropS (l.take (k + 1)) i = dropS (l.take k) i) := Lib.hid (by rw [HS.out, if_pos he, List.append_nil])
        clear he
        go_wp2
        exact ⟨⟨k + 1, by omega, by go_num, by rw [HE.out]; exact O0.out, B0.out⟩, by simp [intOf]; omega⟩
      · have d5 : ((k : Int) != i) = true := by rw [bne_iff_ne]; exact he
        have HE : Hid (dropS (l.take (k + 1)) i = dropS (l.take k) i ++ [x]) := Lib.hid (by rw [HS.out, if_neg he])
        clear he
        go_wp2_with (first | (with_reducible refine wpList_load_rec Ses.isRec rfl _ rfl b (off + k * 20) (by with_unfolding_all exact rfl) x.enc (Ses.len _) HX.out ?_) | (with_reducible refine Ses.wpList_one rfl _ rfl x (by with_unfolding_all exact rfl) ?_))
        intro w2 b2 y2 z2
        have Y2 := Lib.hid y2
        have O2 := Lib.hid (O0.out.below b2 rfl)
        have B2 := Lib.hid (B0.out.trans (b2.mono B0.out.size))
        clear b2 y2 z2 HX O0 B0
        go_wp2_with (with_reducible refine wpList_append_rows Ses.isElem rfl _ _ rfl u5 (by with_unfolding_all exact rfl) O2.out _ [x.enc] (by with_unfolding_all exact rfl) Y2.out (fun c hc => by rw [List.mem_singleton] at hc; rw [hc]; exact Ses.fits _) HN.out B2.out.size ?_)
        intro v3 w3 o3 q3
        have O3 : Hid (OwnRows w3 w.heap.size 36 20 v3 ((dropS (l.take (k + 1)) i).map Ses.enc)) := Lib.hid (o3.eqL (by rw [HE.out, List.map_append]; rfl))
        have B3 := Lib.hid (B2.out.grown q3 B2.out.size (fun k hk => (O2.out.lt k hk).1))
        clear o3 q3 O2 B2 Y2
        go_wp2
        exact ⟨⟨k + 1, by omega, by go_num, O3.out, B3.out⟩, by simp [intOf]; omega⟩
    · have hkl : k = l.length := by omega
      have dk : decide ((k : Int) < (l.length : Int)) = false := by simp; omega
      have HV : Hid (OwnRows wr w.heap.size 36 20 u5 ((dropS l i).map Ses.enc)) := Lib.hid (O0.out.eqL (by rw [hkl, List.take_length]))
      clear O0
      go_wp2
      go_ret
      exact ⟨_, rfl, HV.out.less HB.out, B0.out⟩

set_option maxRecDepth 100000 in
set_option maxHeartbeats 1000000 in
theorem refClose_any (A : Option Addr) (m cap : Nat) (l : List Ses) (n : List UInt8) (base : Nat) (w : World) (hb : base ≤ w.heap.size) (hl : l.length ≤ 100000) (h : RowsAt w (.slice A m cap) 20 (l.map Ses.enc)) :
    Calls Try.prog 27 #[.slice A m cap, .string ⟨n.toArray⟩] w fun e w' => ∃ v, e = .returned v ∧ OwnRows w' base 36 20 v ((closeS l n).map Ses.enc) ∧ Below w.heap.size w w' := by
  have hm : m = l.length := by have := h.size.1; simpa using this
  subst hm
  have H := Lib.hid h
  have HB := Lib.hid hb
  have HL := Lib.hid hl
  clear h hb hl
  go_enter Try.func27, Try.ntmps27
  go_wp2_with fail
  go_loopw [5, 6] (fun v j wr => ∃ k : Nat, k ≤ l.length ∧ j = .int .i64 (k : Int) ∧ OwnRows wr w.heap.size 36 20 v ((closeS (l.take k) n).map Ses.enc) ∧ Below w.heap.size w wr) (fun _ j _ => l.length - (intOf j).toNat)
  case atStart => exact ⟨0, Nat.zero_le _, rfl, OwnRows.nil _ _ _ _, Below.refl _ _⟩
  case round =>
    obtain ⟨k, hk, rfl, ho, hb⟩ := hrel
    have O0 := Lib.hid ho
    have B0 := Lib.hid hb
    clear ho hb
    by_cases hlt : k < l.length
    · have dk : decide ((k : Int) < (l.length : Int)) = true := by simp; omega
      obtain ⟨x, hx⟩ : ∃ x, l[k]? = some x := ⟨_, List.getElem?_eq_getElem hlt⟩
      obtain ⟨b, off, rfl, hc⟩ := ses_row H.out hx
      have HX := Lib.hid (hc wr B0.out)
      have c2 := hc wr B0.out 2 _ rfl
      have jk : (k : Int) < (l.length : Int) := by omega
      have r4 : IntKind.i64.wrap ((k : Int) + 1) = ((k + 1 : Nat) : Int) := by have := HL.out; rw [IntWalk.i64_in _ (by omega)]; omega
      have HS := Lib.hid (closeS_step l n k x hx)
      have HN : Hid (((closeS (l.take k) n).map Ses.enc).length + [x.enc].length ≤ 10000000) := Lib.hid (by have h1 := List.length_filter_le (fun s : Ses => decide (s.peer.name ≠ n)) (l.take k); have := HL.out; rw [List.length_take] at h1; rw [List.length_map, List.length_singleton, closeS]; omega)
      clear hc hx
      by_cases he : x.peer.name = n
      · have d5 : (x.peer.name == n) = true := by rw [beq_iff_eq]; exact he
        have HE : Hid (closeS (l.take (k + 1)) n = closeS (l.take k) n) := Lib.hid (by rw [HS.out, if_pos he, List.append_nil])
        clear he
        go_wp2
        exact ⟨⟨k + 1, by omega, by go_num, by rw [HE.out]; exact O0.out, B0.out⟩, by simp [intOf]; omega⟩
      · have d5 : (x.peer.name == n) = false := by rw [beq_eq_false_iff_ne]; exact he
        have HE : Hid (closeS (l.take (k + 1)) n = closeS (l.take k) n ++ [x]) := Lib.hid (by rw [HS.out, if_neg he])
        clear he
        go_wp2_with (first | (with_reducible refine wpList_load_rec Ses.isRec rfl _ rfl b (off + k * 20) (by with_unfolding_all exact rfl) x.enc (Ses.len _) HX.out ?_) | (with_reducible refine Ses.wpList_one rfl _ rfl x (by with_unfolding_all exact rfl) ?_))
        intro w2 b2 y2 z2
        have Y2 := Lib.hid y2
        have O2 := Lib.hid (O0.out.below b2 rfl)
        have B2 := Lib.hid (B0.out.trans (b2.mono B0.out.size))
        clear b2 y2 z2 HX O0 B0 c2
        go_wp2_with (with_reducible refine wpList_append_rows Ses.isElem rfl _ _ rfl u5 (by with_unfolding_all exact rfl) O2.out _ [x.enc] (by with_unfolding_all exact rfl) Y2.out (fun c hc => by rw [List.mem_singleton] at hc; rw [hc]; exact Ses.fits _) HN.out B2.out.size ?_)
        intro v3 w3 o3 q3
        have O3 : Hid (OwnRows w3 w.heap.size 36 20 v3 ((closeS (l.take (k + 1)) n).map Ses.enc)) := Lib.hid (o3.eqL (by rw [HE.out, List.map_append]; rfl))
        have B3 := Lib.hid (B2.out.grown q3 B2.out.size (fun k hk => (O2.out.lt k hk).1))
        clear o3 q3 O2 B2 Y2
        go_wp2
        exact ⟨⟨k + 1, by omega, by go_num, O3.out, B3.out⟩, by simp [intOf]; omega⟩
    · have hkl : k = l.length := by omega
      have dk : decide ((k : Int) < (l.length : Int)) = false := by simp; omega
      have HV : Hid (OwnRows wr w.heap.size 36 20 u5 ((closeS l n).map Ses.enc)) := Lib.hid (O0.out.eqL (by rw [hkl, List.take_length]))
      clear O0
      go_wp2
      go_ret
      exact ⟨_, rfl, HV.out.less HB.out, B0.out⟩

/-- One is set if it lies ahead of k. -/
def putK (l : List Ses) (i : Int) (s : Ses) (k : Nat) : List Ses := if 0 ≤ i ∧ i < (k : Int) then l.set i.toNat s else l
theorem putK_all (l : List Ses) (i : Int) (s : Ses) : putK l i s l.length = putS l i s := by
  rw [putK, putS]
  by_cases h : 0 ≤ i
  · rw [if_pos h]
    by_cases h2 : i < (l.length : Int)
    · rw [if_pos ⟨h, h2⟩]
    · rw [if_neg (by omega), List.set_eq_of_length_le (by omega)]
  · rw [if_neg h, if_neg (by omega)]
theorem putK_length (l : List Ses) (i : Int) (s : Ses) (k : Nat) : (putK l i s k).length = l.length := by rw [putK]; split <;> simp
theorem putK_here (l : List Ses) (s : Ses) (k : Nat) : putK l (k : Int) s (k + 1) = (putK l (k : Int) s k).set k s := by
  rw [putK, if_pos (by omega), putK, if_neg (by omega), Int.toNat_natCast]
theorem putK_not (l : List Ses) (i : Int) (s : Ses) (k : Nat) (h : ¬ (k : Int) = i) : putK l i s (k + 1) = putK l i s k := by
  rw [putK, putK]
  congr 1
  apply propext
  omega
set_option maxRecDepth 100000 in
set_option maxHeartbeats 1000000 in
theorem refPut_any (A : Option Addr) (m cap : Nat) (l : List Ses) (i : Int) (s : Ses) (base : Nat) (w : World) (hb : base ≤ w.heap.size) (hl : l.length ≤ 100000) (h : RowsAt w (.slice A m cap) 20 (l.map Ses.enc)) :
    Calls Try.prog 23 #[.slice A m cap, .int .i64 i, s.val] w fun e w' => ∃ v, e = .returned v ∧ OwnRows w' base 36 20 v ((putS l i s).map Ses.enc) ∧ Below w.heap.size w w' := by
  have hm : m = l.length := by have := h.size.1; simpa using this
  subst hm
  have HB := Lib.hid hb
  have HL := Lib.hid hl
  clear hb hl
  go_enter Try.func23, Try.ntmps23
  have L0 : Hid (RowsAt w (.slice A l.length cap) 20 (l.map Ses.enc)) := Lib.hid (h)
  clear h
  go_wp2_with (refine wpList_box_row rfl 36 _ rfl s.enc.toArray (by with_unfolding_all exact rfl) ?_)
  intro w1 b1 x1 z1
  obtain ⟨gS, hgS⟩ : ∃ g, g = w.heap.size := ⟨_, rfl⟩
  have M_S := Lib.hid (show w.heap.size ≤ gS from by rw [hgS]; exact Nat.le_refl _)
  have L1 : Hid (RowsAt w1 (.slice A l.length cap) 20 (l.map Ses.enc)) := Lib.hid (L0.out.below b1)
  have B1 := Lib.hid b1
  rw [← hgS] at x1 ⊢
  have S1 : Hid (Ses.At w1 gS s) := Lib.hid x1
  clear b1 x1 z1 hgS L0
  go_wp2_with (with_reducible refine wpList_build_0 (base := w1.heap.size) rfl rfl (Nat.le_refl _) ?_)
  intro wp bp xp
  have HG := Lib.hid (show gS < w1.heap.size from S1.out.lt)
  have HW := Lib.hid B1.out.size
  have XP := Lib.hid xp
  have LP := Lib.hid (L1.out.below bp)
  have SP : Hid (Ses.At wp gS s) := Lib.hid (Whole.below S1.out bp S1.out.lt)
  have BP := Lib.hid (B1.out.trans (bp.mono B1.out.size))
  have ZP := Lib.hid bp.size
  clear bp xp L1 S1 B1
  go_wp2_with (with_reducible refine wpList_append_lit rfl _ _ rfl _ (by with_unfolding_all exact rfl) XP.out _ l (by with_unfolding_all exact rfl) LP.out (by have := HL.out; omega) ZP.out ?_)
  intro v wq bq oq
  obtain ⟨A', cap', hv⟩ := oq.form
  rw [List.length_map] at hv
  subst hv
  have OQ := Lib.hid oq
  have SQ : Hid (Ses.At wq gS s) := Lib.hid (Whole.below SP.out bq SP.out.lt)
  have BQ := Lib.hid (BP.out.trans (bq.mono BP.out.size))
  clear bq oq XP LP SP BP ZP
  obtain ⟨c, hc⟩ : ∃ c, c = w1.heap.size := ⟨_, rfl⟩
  rw [← hc] at OQ HG HW
  clear hc
  go_wp2_with fail
  go_loopw [8] (fun j wr => ∃ k : Nat, k ≤ l.length ∧ j = .int .i64 (k : Int) ∧ OwnRows wr c 36 20 (.slice A' l.length cap') ((putK l i s k).map Ses.enc) ∧ Ses.At wr gS s ∧ Below w.heap.size w wr) (fun j _ => l.length - (intOf j).toNat)
  case atStart => exact ⟨0, Nat.zero_le _, rfl, OQ.out.eqL (by rw [putK, if_neg (by omega)]), SQ.out, BQ.out⟩
  case round =>
    obtain ⟨k, hk, rfl, ho, hs, hb⟩ := hrel
    have O0 := Lib.hid ho
    have S0 := Lib.hid hs
    have B0 := Lib.hid hb
    clear ho hs hb OQ SQ BQ
    by_cases hlt : k < l.length
    · have dk : decide ((k : Int) < (l.length : Int)) = true := by simp; omega
      have jk : (k : Int) < (l.length : Int) := by omega
      have r4 : IntKind.i64.wrap ((k : Int) + 1) = ((k + 1 : Nat) : Int) := by have := HL.out; rw [IntWalk.i64_in _ (by omega)]; omega
      by_cases he : (k : Int) = i
      · have d5 : ((k : Int) == i) = true := by rw [beq_iff_eq]; exact he
        subst he
        have HKL : Hid (k < ((putK l (k : Int) s k).map Ses.enc).length) := Lib.hid (by rw [List.length_map, putK_length]; exact hlt)
        obtain ⟨g, rfl⟩ := O0.out.spot (by intro e; have := HKL.out; rw [e] at this; simp at this)
        have HGC := Lib.hid (O0.out.lt g rfl).1
        go_wp2_with (first | (with_reducible refine wpList_load_whole Ses.isRec rfl _ rfl gS (by with_unfolding_all exact rfl) _ _ (Ses.len _) S0.out ?_) | (with_reducible refine wpList_put_row (k := 20) rfl _ _ rfl (by with_unfolding_all exact Ses.size s) _ _ _ k g O0.out HKL.out rfl (by with_unfolding_all exact rfl) s.enc (by with_unfolding_all exact rfl) (Ses.len s) (fun u hu => (Ses.fits s).one u hu) ?_))
        intro w5 o5 q5 z5
        have O5 : Hid (OwnRows w5 c 36 20 (.slice (some ⟨g, 0, none⟩) l.length cap') ((putK l (k : Int) s (k + 1)).map Ses.enc)) := Lib.hid (o5.eqL (by rw [putK_here, List.map_set]))
        have S5 : Hid (Ses.At w5 gS s) := Lib.hid (Whole.grown_own S0.out q5 (fun e => by have h : g = gS := Option.some.inj e; have := HGC.out; have := HG.out; omega))
        have B5 := Lib.hid (B0.out.grown q5 B0.out.size (fun k hk => by injection hk with hk; have := HGC.out; have := HW.out; omega))
        clear o5 q5 z5 O0 S0 B0
        go_wp2
        exact ⟨⟨k + 1, by omega, by go_num, O5.out, S5.out, B5.out⟩, by simp [intOf]; omega⟩
      · have d5 : ((k : Int) == i) = false := by rw [beq_eq_false_iff_ne]; exact he
        have HE := Lib.hid (putK_not l i s k he)
        clear he
        go_wp2
        exact ⟨⟨k + 1, by omega, by go_num, by rw [HE.out]; exact O0.out, S0.out, B0.out⟩, by simp [intOf]; omega⟩
    · have hkl : k = l.length := by omega
      have dk : decide ((k : Int) < (l.length : Int)) = false := by simp; omega
      have HV : Hid (OwnRows wr c 36 20 (.slice A' l.length cap') ((putS l i s).map Ses.enc)) := Lib.hid (O0.out.eqL (by rw [hkl, putK_all]))
      clear O0
      go_wp2
      go_ret
      exact ⟨_, rfl, HV.out.less (Nat.le_trans HB.out HW.out), B0.out⟩

set_option maxRecDepth 100000 in
set_option maxHeartbeats 1000000 in
theorem refSameT_any (A : Option Addr) (m cap : Nat) (A' : Option Addr) (m' cap' : Nat) (l : List Ses) (w : World) (hl : l.length ≤ 1000000) (h : RowsAt w (.slice A m cap) 20 (l.map Ses.enc)) (h' : RowsAt w (.slice A' m' cap') 20 (l.map Ses.enc)) :
    Calls Try.prog 21 #[.slice A m cap, .slice A' m' cap'] w fun e w' => e = .returned (.bool true) ∧ Below w.heap.size w w' := by
  have hm : m = l.length := by have := h.size.1; simpa using this
  have hm' : m' = l.length := by have := h'.size.1; simpa using this
  subst hm hm'
  have H := Lib.hid h
  have H' := Lib.hid h'
  have HL := Lib.hid hl
  clear h h' hl
  go_enter Try.func21, Try.ntmps21
  go_wp2_with fail
  go_loopw [5] (fun j wr => ∃ k : Nat, k ≤ l.length ∧ j = .int .i64 (k : Int) ∧ Below w.heap.size w wr) (fun j _ => l.length - (intOf j).toNat)
  case atStart => exact ⟨0, Nat.zero_le _, rfl, Below.refl _ _⟩
  case round =>
    obtain ⟨k, hk, rfl, hb⟩ := hrel
    have B0 := Lib.hid hb
    clear hb
    by_cases hlt : k < l.length
    · have dk : decide ((k : Int) < (l.length : Int)) = true := by simp; omega
      obtain ⟨x, hx⟩ : ∃ x, l[k]? = some x := ⟨_, List.getElem?_eq_getElem hlt⟩
      obtain ⟨b, off, rfl, hc⟩ := ses_row H.out hx
      obtain ⟨b', off', rfl, hc'⟩ := ses_row H'.out hx
      have HX := Lib.hid hc
      have HX' := Lib.hid hc'
      have jk : (k : Int) < (l.length : Int) := by omega
      have r4 : IntKind.i64.wrap ((k : Int) + 1) = ((k + 1 : Nat) : Int) := by have := HL.out; rw [IntWalk.i64_in _ (by omega)]; omega
      clear hc hc' hx
      go_wp2_with fail
      refine reg_begin (by kernel_rfl) fun w1 b1 z1 => ?_
      have B1 := Lib.hid (B0.out.trans (b1.mono B0.out.size))
      clear b1 z1 B0
      refine reg_take (i := 0) (v := ?_) rfl (by kernel_rfl) (by kernel_rfl) (by kernel_rfl) (fun _ _ _ h => h) (by rfl) ?hy0 ?_
      case hy0 => intro w' hw'; go_simp; (try with_reducible rfl)
      simp only [Act.put, List.setIfInBounds_toArray, List.set_cons_zero, List.set_cons_succ]
      refine reg_take (i := 1) (v := ?_) rfl (by kernel_rfl) (by kernel_rfl) (by kernel_rfl) (fun _ _ _ h => h) (by rfl) ?hy1 ?_
      case hy1 => intro w' hw'; go_simp; (try with_reducible rfl)
      simp only [Act.put, List.setIfInBounds_toArray, List.set_cons_zero, List.set_cons_succ]
      refine reg_take (i := 2) (v := ?_) rfl (by kernel_rfl) (by kernel_rfl) (by kernel_rfl) (fun _ _ _ h => h) (by rfl) ?hy2 ?_
      case hy2 => intro w' hw'; go_simp; (try with_reducible rfl)
      simp only [Act.put, List.setIfInBounds_toArray, List.set_cons_zero, List.set_cons_succ]
      refine reg_take (i := 3) (v := x.val) rfl (by kernel_rfl) (by kernel_rfl) (by kernel_rfl) (fun _ _ _ h => h) (by rfl) ?hy3 ?_
      case hy3 => intro w' hw'; exact exec_load_rec Ses.isRec _ rfl b (off + k * 20) rfl _ (Ses.len _) w' (HX.out w' (B1.out.trans (hw'.mono B1.out.size)))
      simp only [Act.put, List.setIfInBounds_toArray, List.set_cons_zero, List.set_cons_succ]
      refine reg_take (i := 4) (v := ?_) rfl (by kernel_rfl) (by kernel_rfl) (by kernel_rfl) (fun _ _ _ h => h) (by rfl) ?hy4 ?_
      case hy4 => intro w' hw'; go_simp; (try with_reducible rfl)
      simp only [Act.put, List.setIfInBounds_toArray, List.set_cons_zero, List.set_cons_succ]
      refine reg_take (i := 5) (v := ?_) rfl (by kernel_rfl) (by kernel_rfl) (by kernel_rfl) (fun _ _ _ h => h) (by rfl) ?hy5 ?_
      case hy5 => intro w' hw'; go_simp; (try with_reducible rfl)
      simp only [Act.put, List.setIfInBounds_toArray, List.set_cons_zero, List.set_cons_succ]
      refine reg_take (i := 6) (v := ?_) rfl (by kernel_rfl) (by kernel_rfl) (by kernel_rfl) (fun _ _ _ h => h) (by rfl) ?hy6 ?_
      case hy6 => intro w' hw'; go_simp; (try with_reducible rfl)
      simp only [Act.put, List.setIfInBounds_toArray, List.set_cons_zero, List.set_cons_succ]
      refine reg_take (i := 7) (v := x.val) rfl (by kernel_rfl) (by kernel_rfl) (by kernel_rfl) (fun _ _ _ h => h) (by rfl) ?hy7 ?_
      case hy7 => intro w' hw'; exact exec_load_rec Ses.isRec _ rfl b' (off' + k * 20) rfl _ (Ses.len _) w' (HX'.out w' (B1.out.trans (hw'.mono B1.out.size)))
      simp only [Act.put, List.setIfInBounds_toArray, List.set_cons_zero, List.set_cons_succ]
      refine reg_take (i := 8) (v := .bool false) rfl (by kernel_rfl) (by kernel_rfl) (by kernel_rfl) (fun _ _ _ h => h) (by rfl) ?hy8 ?_
      case hy8 => intro w' hw'; exact exec_neq_rec Ses.isRec _ _ _ rfl x.enc x.enc (Ses.fits _) (Ses.fits _) rfl rfl false (by rw [eqCells_refl (Ses.fits _)]; rfl) w'
      simp only [Act.put, List.setIfInBounds_toArray, List.set_cons_zero, List.set_cons_succ]
      refine reg_end (by kernel_rfl) ?_
      go_wp2
      exact ⟨⟨k + 1, by omega, by go_num, B1.out⟩, by simp [intOf]; omega⟩
    · have hkl : k = l.length := by omega
      have dk : decide ((k : Int) < (l.length : Int)) = false := by simp; omega
      go_wp2
      go_ret
      exact ⟨rfl, B0.out⟩
end Go.Proofs.Ytjohlnpalcmhbaa
