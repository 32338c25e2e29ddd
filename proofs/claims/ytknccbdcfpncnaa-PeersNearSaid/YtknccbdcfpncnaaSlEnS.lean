/- Slices of api.Entry: words for what is made anew within a region: an empty literal, one of one, append. (Written by tools/mkslice.py.) -/
import Derived.Test.YtknccbdcfpncnaaSlEnA
import Derived.Lib.AppendZerosOnto
import Derived.Deep.DeepCutAuto
namespace Go.Proofs.Ytknccbdcfpncnaa
set_option maxRecDepth 100000
open Go.RowKit

/-- An empty literal. -/
def LitAtEn (w : World) (base g : Nat) : Prop := OwnRows w base 24 6 (.slice (some ⟨g, 0, none⟩) 0 0) []
theorem LitAtEn.below {w w' : World} {base g : Nat} (h : LitAtEn w base g) (b : Below w.heap.size w w') : LitAtEn w' base g := OwnRows.below h b rfl
section
variable {ops : Array Oper} {rest : List Oper} {o : Oper} {a : Act} {w : World} {K : Act → World → Prop} {Q : Exit → Act → World → Prop} {base : Nat}
theorem run_build_0En (w : World) : (Instr.buildSlice 39 0 #[]).run Try.prog w = .ok (.slice (some ⟨w.heap.size, 0, none⟩) 0 0) (w.alloc (.cells #[] 24)) := by
  obtain ⟨i, h1, h2, h3⟩ := Ent.info
  have e : Array.range 0 = #[] := rfl
  simp [Instr.buildSlice, run_underlying Try.underlying39, sizeOf, typeInfo, h1, newRow, newObj, Instr.fill, e]
  rfl
theorem wp_build_0En (ho : o.op = .buildSlice 39 0 #[]) (hb : base ≤ w.heap.size)
    (h : ∀ w', Below w.heap.size w w' → LitAtEn w' base w.heap.size → K (a.put o.dst (.slice (some ⟨w.heap.size, 0, none⟩) 0 0)) w') : o.wp Try.prog a w K Q := by
  have q := h (w.alloc (.cells #[] 24)) ((Below.refl _ _).alloc (Nat.le_refl _) _) ⟨World.ownsRow_made w #[] 0 hb (by decide) rfl, fun c hc => by cases hc⟩
  unfold Oper.wp execOp
  simp only [ho, List.map_toArray, List.map_nil, run_build_0En, Sem.run_bind, Sem.run_pure, Result.andThen_ok, Oper.upon]
  exact q
theorem wpList_build_0En (hgd : o.guard = none) (ho : o.op = .buildSlice 39 0 #[]) (hb : base ≤ w.heap.size)
    (h : ∀ w', Below w.heap.size w w' → LitAtEn w' base w.heap.size → wpList Try.prog ops Q rest (a.put o.dst (.slice (some ⟨w.heap.size, 0, none⟩) 0 0)) w') : wpList Try.prog ops Q (o :: rest) a w :=
  wpList_plain hgd fun _ hK => wp_build_0En ho hb fun w' h1 h2 => hK _ _ (h w' h1 h2)
theorem wp_oneEn (y : Operand) (ho : o.op = .buildSlice 39 1 #[(0, y)]) (x : Ent) (hy : a.eval y = x.val)
    (h : ∀ w', Below w.heap.size w w' → RowsAt w' (.slice (some ⟨w.heap.size, 0, none⟩) 1 1) 6 ([x].map Ent.enc) → K (a.put o.dst (.slice (some ⟨w.heap.size, 0, none⟩) 1 1)) w') : o.wp Try.prog a w K Q := by
  obtain ⟨i, h1, h2, h3⟩ := Ent.info
  have hr := run_buildSlice (P := Try.prog) (w := w) Try.underlying39 h1 h2 1 (by rw [h3]; decide) (by rw [h3]; decide) #[(0, x.val)] x.enc.toArray (by rw [h3]; exact Ent.build_one x)
  have q := h (w.alloc (.cells x.enc.toArray 24)) ((Below.refl _ _).alloc (Nat.le_refl _) _) (rows_one (Whole.new w 24 x.enc.toArray) (Nat.le_refl _))
  unfold Oper.wp execOp
  simp only [ho, List.map_toArray, List.map_cons, List.map_nil, hy, hr, Sem.run_bind, Sem.run_pure, Result.andThen_ok, Oper.upon]
  exact q
/-- One of one, of the call's own. -/
theorem wp_own_oneEn (y : Operand) (ho : o.op = .buildSlice 39 1 #[(0, y)]) (x : Ent) (hy : a.eval y = x.val) (hb : base ≤ w.heap.size)
    (h : ∀ v w', Below w.heap.size w w' → OwnRows w' base 24 6 v ([x].map Ent.enc) → K (a.put o.dst v) w') : o.wp Try.prog a w K Q := by
  obtain ⟨i, h1, h2, h3⟩ := Ent.info
  have hr := run_buildSlice (P := Try.prog) (w := w) Try.underlying39 h1 h2 1 (by rw [h3]; decide) (by rw [h3]; decide) #[(0, x.val)] x.enc.toArray (by rw [h3]; exact Ent.build_one x)
  have q := h (.slice (some ⟨w.heap.size, 0, none⟩) 1 1) (w.alloc (.cells x.enc.toArray 24)) ((Below.refl _ _).alloc (Nat.le_refl _) _) ⟨World.ownsRow_lit w x.enc.toArray 1 hb (by decide) rfl, fun c hc => by simp only [List.map_cons, List.map_nil, List.mem_singleton] at hc; rw [hc]; exact Ent.len x⟩
  unfold Oper.wp execOp
  simp only [ho, List.map_toArray, List.map_cons, List.map_nil, hy, hr, Sem.run_bind, Sem.run_pure, Result.andThen_ok, Oper.upon]
  exact q
theorem all_fitEn (l : List Ent) : ∀ c ∈ l.map Ent.enc, Fits Ent.ks c := fun c hc => by obtain ⟨y, _, rfl⟩ := List.mem_map.1 hc; exact Ent.fits _
/-- Put behind an empty literal: nothing that was there is changed. -/
theorem run_append_litEn (ty : TypeId) (g : Nat) (hown : LitAtEn w base g) (src : Value) (l : List Ent) (hs : RowsAt w src 6 (l.map Ent.enc)) (hl : l.length ≤ 1000000) (hb : base ≤ w.heap.size) :
    ∃ v' w', (Builtin.append_ #[39, 39] ty #[.slice (some ⟨g, 0, none⟩) 0 0, src]).run Try.prog w = .ok v' w' ∧ OwnRows w' base 24 6 v' (l.map Ent.enc) ∧ Below w.heap.size w w' := by
  obtain ⟨i0, z, hi0, hz, hsz, hzs, hby⟩ := Ent.isElem.zero
  have hsz' : i0.size = 6 := hsz
  have hzs' : z.cells.size = 6 := hzs
  obtain ⟨A, cap, rfl, hcap, hc⟩ := id hs
  by_cases hne : l = []
  · subst hne
    rcases hown.1.2 with ⟨h1, -⟩ | ⟨g', cap', cur, h1, hb', hg, hnc, hcm, hcs, htake⟩
    · cases h1
    injection h1 with h1 h2 h3
    injection h1 with h1
    injection h1 with h1
    subst h1 h3
    simp only [List.map_nil, List.length_nil]
    cases A with
    | none => exact ⟨_, w, run_append_nothing w base _ ty _ i0 6 Try.underlying39 hi0 (.slice (some ⟨g, 0, none⟩) 0 0) 0 [] hown.1 cap, hown, Below.refl _ _⟩
    | some ad =>
      have hr := run_append_room (P := Try.prog) w 39 ty 24 i0 Try.underlying39 hi0 g 0 0 cur hg ad 0 cap [] (by simp) (fun j u h => by simp at h) (fun u h => by cases h) (by omega) (by simp)
      refine ⟨.slice (some ⟨g, 0, none⟩) 0 0, w, ?_, hown, Below.refl _ _⟩
      rw [hr]
      simp
      rw [setRow_self w g cur _ _ hg]
  · have hM : l.map Ent.enc ≠ [] := by simpa using hne
    obtain ⟨ad, rfl, -⟩ := hc hM
    have hpos : 0 < l.length := List.length_pos_iff.2 hne
    have hMk : ∀ c ∈ l.map Ent.enc, c.length = 6 := fun c hc => (all_fitEn l c hc).len
    have hfl : (l.map Ent.enc).flatten.length = l.length * 6 := by rw [flat_len hMk, List.length_map]
    have hcells : ∀ j u, (l.map Ent.enc).flatten[j]? = some u → w.cell? (ad.add j) = some u := fun j u hj => by
      obtain ⟨ad', e', hcell⟩ := hc hM
      injection e' with e'
      subst e'
      have hjl := (List.getElem?_eq_some_iff.1 hj).1
      rw [flat_len hMk] at hjl
      have hq : j / 6 < (l.map Ent.enc).length := Nat.div_lt_of_lt_mul (by rw [Nat.mul_comm]; exact hjl)
      have h1 : (l.map Ent.enc)[j / 6]? = some (l.map Ent.enc)[j / 6] := List.getElem?_eq_getElem hq
      have hl : ((l.map Ent.enc)[j / 6]).length = 6 := hMk _ (List.getElem_mem hq)
      have hr : j % 6 < ((l.map Ent.enc)[j / 6]).length := by rw [hl]; exact Nat.mod_lt _ (by decide)
      have h2 : ((l.map Ent.enc)[j / 6])[j % 6]? = some ((l.map Ent.enc)[j / 6])[j % 6] := List.getElem?_eq_getElem hr
      have h3 := flat_at hMk _ _ h1 _ _ h2
      have hdm : j / 6 * 6 + j % 6 = j := by rw [Nat.mul_comm]; exact Nat.div_add_mod j 6
      rw [hdm] at h3
      rw [h3] at hj
      have h4 := hcell _ _ h1 _ _ h2
      rw [hdm] at h4
      rw [h4]
      exact hj
    have hb1 : l.length * i0.bytes ≤ 1000000 * 8000 := Nat.mul_le_mul hl hby
    have hr := run_append_grow (P := Try.prog) w 39 ty 24 i0 z Try.underlying39 hi0 hz ⟨g, 0, none⟩ 0 0 [] (by simp) (fun j v h => by simp at h) ad l.length cap (l.map Ent.enc).flatten (by rw [hfl, hsz']) hcells (by omega) (by omega) (by rw [Nat.zero_add, nextslicecap_zero hpos]; exact Nat.le_trans hb1 (by decide))
    rw [Nat.zero_add] at hr
    have hge := grownCap_ge w l.length 0 24
    have hcm : grownCap w l.length 0 24 ≤ maxLen := grownCap_le_maxLen w _ _ _ (by simp only [maxLen]; omega)
    have hln : (l.map Ent.enc).length = l.length := List.length_map _
    rw [hln]
    refine ⟨_, _, hr, ⟨⟨by rw [hfl, hln], .inr ⟨w.heap.size, _, _, by rw [hln], hb, heap_alloc_new w.drew _, by rw [hln]; exact hge, hcm, ?_, ?_⟩⟩, hMk⟩, (Below.refl w.heap.size w).drew.alloc (Nat.le_refl _) _⟩
    · simp only [Array.size_append, List.size_toArray, size_zeroCells, hzs', hfl, List.length_nil]
      omega
    · rw [hln, ← hfl]
      simp only [Array.toList_append, List.nil_append]
      exact List.take_left
theorem wp_append_litEn (s x : Operand) (ho : o.op = .call { callee := .builtin .append, args := #[s, x], argTypes := #[39, 39] }) (g : Nat) (hv : a.eval s = .slice (some ⟨g, 0, none⟩) 0 0) (hown : LitAtEn w base g) (src : Value) (l : List Ent) (hx : a.eval x = src) (hs : RowsAt w src 6 (l.map Ent.enc)) (hl : l.length ≤ 1000000) (hb : base ≤ w.heap.size)
    (h : ∀ v' w', Below w.heap.size w w' → OwnRows w' base 24 6 v' (l.map Ent.enc) → K (a.put o.dst v') w') : o.wp Try.prog a w K Q := by
  obtain ⟨v', w', hr, h2, h3⟩ := run_append_litEn o.type g hown src l hs hl hb
  unfold Oper.wp execOp
  simp only [ho, resolve, invoke, builtin, Sem.run_bind, Sem.run_pure, Result.andThen_ok, List.map_toArray, List.map_cons, List.map_nil, hv, hx, hr]
  exact h v' w' h3 h2
theorem wpList_append_litEn (hgd : o.guard = none) (s x : Operand) (ho : o.op = .call { callee := .builtin .append, args := #[s, x], argTypes := #[39, 39] }) (g : Nat) (hv : a.eval s = .slice (some ⟨g, 0, none⟩) 0 0) (hown : LitAtEn w base g) (src : Value) (l : List Ent) (hx : a.eval x = src) (hs : RowsAt w src 6 (l.map Ent.enc)) (hl : l.length ≤ 1000000) (hb : base ≤ w.heap.size)
    (h : ∀ v' w', Below w.heap.size w w' → OwnRows w' base 24 6 v' (l.map Ent.enc) → wpList Try.prog ops Q rest (a.put o.dst v') w') : wpList Try.prog ops Q (o :: rest) a w :=
  wpList_plain hgd fun _ hK => wp_append_litEn s x ho g hv hown src l hx hs hl hb fun v' w' h1 h2 => hK _ _ (h v' w' h1 h2)
/-- Put behind a row of one's own. -/
theorem wp_append_lastEn (s x : Operand) (ho : o.op = .call { callee := .builtin .append, args := #[s, x], argTypes := #[39, 39] }) (v : Value) (L : List Ent) (hv : a.eval s = v) (hown : OwnRows w base 24 6 v (L.map Ent.enc)) (src : Value) (l : List Ent) (hx : a.eval x = src) (hs : RowsAt w src 6 (l.map Ent.enc)) (hl : L.length + l.length ≤ 1000000) (hb : base ≤ w.heap.size)
    (h : ∀ v' w', Below base w w' → OwnRows w' base 24 6 v' ((L ++ l).map Ent.enc) → K (a.put o.dst v') w') : o.wp Try.prog a w K Q :=
  wp_append_rows Ent.isElem s x ho v hv hown src (l.map Ent.enc) hx hs (all_fitEn l) (by rw [List.length_map, List.length_map]; omega) hb fun v' w' h2 h3 =>
    h v' w' ((Below.refl base w).grown h3 hb (fun k hk => (hown.lt k hk).1)) (h2.eqL (by rw [List.map_append]))
end
end Go.Proofs.Ytknccbdcfpncnaa
