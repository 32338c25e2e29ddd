/- Slices of api.Entry: slices of slices; parts of one. (Written by tools/mkslice.py.) -/
import Derived.Test.YtknccbdcfpncnaaSlEnB
namespace Go.Proofs.Ytknccbdcfpncnaa
set_option maxRecDepth 100000
open Go.RowKit

theorem parts_infoEn : ∃ i, Try.prog.info? 39 = some i ∧ i.zero = some (.slice none 0 0) ∧ i.size = 1 := by
  have h : (Try.prog.info? 39).map (fun i => (i.zero, i.size)) = some (some (.slice none 0 0), 1) := by kernel_rfl
  cases hi : Try.prog.info? 39 with
  | none => rw [hi] at h; cases h
  | some i =>
    rw [hi] at h
    simp only [Option.map_some, Option.some.injEq, Prod.mk.injEq] at h
    exact ⟨i, rfl, h.1, h.2⟩
section
variable {ops : Array Oper} {rest : List Oper} {o : Oper} {a : Act} {w : World} {K : Act → World → Prop} {Q : Exit → Act → World → Prop}
theorem wp_build_1En (y : Operand) (ho : o.op = .buildSlice 64 1 #[(0, y)]) (A : Option Addr) (m cap : Nat) (l : List Ent) (hy : a.eval y = .slice A m cap) (hr : RowsAt w (.slice A m cap) 6 (l.map Ent.enc))
    (h : ∀ w', Below w.heap.size w w' → PartsEn w' w.heap.size [l] → K (a.put o.dst (.slice (some ⟨w.heap.size, 0, none⟩) 1 1)) w') : o.wp Try.prog a w K Q := by
  obtain ⟨i, h1, h2, h3⟩ := parts_infoEn
  have hf : filled 1 1 (Value.slice none 0 0).cells [(0, .slice A m cap)] = some #[.slice A m cap] := by kernel_rfl
  have hu := run_buildSlice (P := Try.prog) (w := w) Try.underlying64 h1 h2 1 (by rw [h3]; decide) (by rw [h3]; decide) #[(0, .slice A m cap)] #[.slice A m cap] (by rw [h3]; exact hf)
  have b : Below w.heap.size w (w.alloc (.cells #[.slice A m cap] 39)) := (Below.refl _ _).alloc (Nat.le_refl _) _
  have q := h _ b (PartsEn.one (Whole.new w 39 #[.slice A m cap]) (hr.below b))
  unfold Oper.wp execOp
  simp only [ho, List.map_toArray, List.map_cons, List.map_nil, hy, hu, Sem.run_bind, Sem.run_pure, Result.andThen_ok, Oper.upon]
  exact q
theorem wp_build_2En (y z : Operand) (ho : o.op = .buildSlice 64 2 #[(0, y), (1, z)]) (A : Option Addr) (m cap : Nat) (l : List Ent) (A' : Option Addr) (m' cap' : Nat) (l' : List Ent) (hy : a.eval y = .slice A m cap) (hz : a.eval z = .slice A' m' cap') (hr : RowsAt w (.slice A m cap) 6 (l.map Ent.enc)) (hr' : RowsAt w (.slice A' m' cap') 6 (l'.map Ent.enc))
    (h : ∀ w', Below w.heap.size w w' → PartsEn w' w.heap.size [l, l'] → K (a.put o.dst (.slice (some ⟨w.heap.size, 0, none⟩) 2 2)) w') : o.wp Try.prog a w K Q := by
  obtain ⟨i, h1, h2, h3⟩ := parts_infoEn
  have hf : filled 1 2 (Value.slice none 0 0).cells [(0, .slice A m cap), (1, .slice A' m' cap')] = some #[.slice A m cap, .slice A' m' cap'] := by kernel_rfl
  have hu := run_buildSlice (P := Try.prog) (w := w) Try.underlying64 h1 h2 2 (by rw [h3]; decide) (by rw [h3]; decide) #[(0, .slice A m cap), (1, .slice A' m' cap')] #[.slice A m cap, .slice A' m' cap'] (by rw [h3]; exact hf)
  have b : Below w.heap.size w (w.alloc (.cells #[.slice A m cap, .slice A' m' cap'] 39)) := (Below.refl _ _).alloc (Nat.le_refl _) _
  have q := h _ b (PartsEn.two (Whole.new w 39 #[.slice A m cap, .slice A' m' cap']) (hr.below b) (hr'.below b))
  unfold Oper.wp execOp
  simp only [ho, List.map_toArray, List.map_cons, List.map_nil, hy, hz, hu, Sem.run_bind, Sem.run_pure, Result.andThen_ok, Oper.upon]
  exact q
theorem wp_build_3En (y z u : Operand) (ho : o.op = .buildSlice 64 3 #[(0, y), (1, z), (2, u)]) (A : Option Addr) (m cap : Nat) (l : List Ent) (A' : Option Addr) (m' cap' : Nat) (l' : List Ent) (A2 : Option Addr) (m2 cap2 : Nat) (l2 : List Ent) (hy : a.eval y = .slice A m cap) (hz : a.eval z = .slice A' m' cap') (hu : a.eval u = .slice A2 m2 cap2) (hr : RowsAt w (.slice A m cap) 6 (l.map Ent.enc)) (hr' : RowsAt w (.slice A' m' cap') 6 (l'.map Ent.enc)) (hr2 : RowsAt w (.slice A2 m2 cap2) 6 (l2.map Ent.enc))
    (h : ∀ w', Below w.heap.size w w' → PartsEn w' w.heap.size [l, l', l2] → K (a.put o.dst (.slice (some ⟨w.heap.size, 0, none⟩) 3 3)) w') : o.wp Try.prog a w K Q := by
  obtain ⟨i, h1, h2, h3⟩ := parts_infoEn
  have hf : filled 1 3 (Value.slice none 0 0).cells [(0, .slice A m cap), (1, .slice A' m' cap'), (2, .slice A2 m2 cap2)] = some #[.slice A m cap, .slice A' m' cap', .slice A2 m2 cap2] := by kernel_rfl
  have hw := run_buildSlice (P := Try.prog) (w := w) Try.underlying64 h1 h2 3 (by rw [h3]; decide) (by rw [h3]; decide) #[(0, .slice A m cap), (1, .slice A' m' cap'), (2, .slice A2 m2 cap2)] #[.slice A m cap, .slice A' m' cap', .slice A2 m2 cap2] (by rw [h3]; exact hf)
  have b : Below w.heap.size w (w.alloc (.cells #[.slice A m cap, .slice A' m' cap', .slice A2 m2 cap2] 39)) := (Below.refl _ _).alloc (Nat.le_refl _) _
  have q := h _ b (PartsEn.three (Whole.new w 39 #[.slice A m cap, .slice A' m' cap', .slice A2 m2 cap2]) (hr.below b) (hr'.below b) (hr2.below b))
  unfold Oper.wp execOp
  simp only [ho, List.map_toArray, List.map_cons, List.map_nil, hy, hz, hu, hw, Sem.run_bind, Sem.run_pure, Result.andThen_ok, Oper.upon]
  exact q
theorem wpList_build_1En (hgd : o.guard = none) (y : Operand) (ho : o.op = .buildSlice 64 1 #[(0, y)]) (A : Option Addr) (m cap : Nat) (l : List Ent) (hy : a.eval y = .slice A m cap) (hr : RowsAt w (.slice A m cap) 6 (l.map Ent.enc))
    (h : ∀ w', Below w.heap.size w w' → PartsEn w' w.heap.size [l] → wpList Try.prog ops Q rest (a.put o.dst (.slice (some ⟨w.heap.size, 0, none⟩) 1 1)) w') : wpList Try.prog ops Q (o :: rest) a w :=
  wpList_plain hgd fun _ hK => wp_build_1En y ho A m cap l hy hr fun w' h1 h2 => hK _ _ (h w' h1 h2)
theorem wpList_build_2En (hgd : o.guard = none) (y z : Operand) (ho : o.op = .buildSlice 64 2 #[(0, y), (1, z)]) (A : Option Addr) (m cap : Nat) (l : List Ent) (A' : Option Addr) (m' cap' : Nat) (l' : List Ent) (hy : a.eval y = .slice A m cap) (hz : a.eval z = .slice A' m' cap') (hr : RowsAt w (.slice A m cap) 6 (l.map Ent.enc)) (hr' : RowsAt w (.slice A' m' cap') 6 (l'.map Ent.enc))
    (h : ∀ w', Below w.heap.size w w' → PartsEn w' w.heap.size [l, l'] → wpList Try.prog ops Q rest (a.put o.dst (.slice (some ⟨w.heap.size, 0, none⟩) 2 2)) w') : wpList Try.prog ops Q (o :: rest) a w :=
  wpList_plain hgd fun _ hK => wp_build_2En y z ho A m cap l A' m' cap' l' hy hz hr hr' fun w' h1 h2 => hK _ _ (h w' h1 h2)
end
theorem size_isEn : ∃ i, Try.prog.info? 24 = some i ∧ i.size = 6 := by
  obtain ⟨i, h1, -, h3⟩ := Ent.info
  exact ⟨i, h1, h3⟩
theorem exec_slice_hiEn {ev : Operand → Value} {o : Oper} (x y : Operand) (ho : o.op = .slice 39 x none (some y) none) (A : Option Addr) (n cap i : Nat) (hx : ev x = .slice A n cap) (hy : ev y = .int .i64 (i : Int)) (hi : i ≤ cap) (w : World) :
    (execOp ev o).run Try.prog w = .ok (.value (.slice A i cap)) w := by
  obtain ⟨q, h1, h2⟩ := size_isEn
  have hA : A.map (fun a => a.add 0) = A := by cases A <;> simp [Addr.add]
  unfold execOp
  simp [ho, hx, hy, Instr.sliceAt, Instr.slice, run_underlying Try.underlying39, Instr.sliceBounds, Instr.sliceBound, asIntOf, sizeOf, typeInfo, h1, hA]
  intro h; omega
theorem exec_slice_loEn {ev : Operand → Value} {o : Oper} (x y : Operand) (ho : o.op = .slice 39 x (some y) none none) (b off n cap i : Nat) (hx : ev x = .slice (some ⟨b, off, none⟩) n cap) (hy : ev y = .int .i64 (i : Int)) (hi : i ≤ n) (w : World) :
    (execOp ev o).run Try.prog w = .ok (.value (.slice (some (sufK 6 b off cap i)) (n - i) (cap - i))) w := by
  obtain ⟨q, h1, h2⟩ := size_isEn
  unfold execOp
  simp [ho, hx, hy, Instr.sliceAt, Instr.slice, run_underlying Try.underlying39, Instr.sliceBounds, Instr.sliceBound, asIntOf, sizeOf, typeInfo, h1, h2, hi, sufK]
  by_cases q : cap = i
  · rw [if_pos q, if_pos q]
  · rw [if_neg q, if_neg q]
set_option linter.unusedSimpArgs false in
theorem exec_slice_lowEn {ev : Operand → Value} {o : Oper} (x y : Operand) (ho : o.op = .slice 39 x (some y) none none) (A : Option Addr) (n cap i : Nat) (hx : ev x = .slice A n cap) (hy : ev y = .int .i64 (i : Int)) (hi : i ≤ n) (w : World) :
    (execOp ev o).run Try.prog w = .ok (.value (.slice (sufO 6 A cap i) (n - i) (cap - i))) w := by
  obtain ⟨q, h1, h2⟩ := size_isEn
  unfold execOp
  cases A with
  | none => simp [ho, hx, hy, Instr.sliceAt, Instr.slice, run_underlying Try.underlying39, Instr.sliceBounds, Instr.sliceBound, asIntOf, sizeOf, typeInfo, h1, h2, hi, sufO]
  | some a =>
    simp [ho, hx, hy, Instr.sliceAt, Instr.slice, run_underlying Try.underlying39, Instr.sliceBounds, Instr.sliceBound, asIntOf, sizeOf, typeInfo, h1, h2, hi, sufO]
    by_cases q : cap = i
    · rw [if_pos q, if_pos q]
    · rw [if_neg q, if_neg q]
theorem rows_lowEn {w : World} {A : Option Addr} {n cap i : Nat} {l : List Ent} (h : RowsAt w (.slice A n cap) 6 (l.map Ent.enc)) (hi : i ≤ n) : RowsAt w (.slice (sufO 6 A cap i) (n - i) (cap - i)) 6 ((l.drop i).map Ent.enc) := by
  rw [List.map_drop]
  exact h.suffixO (fun c hc => by obtain ⟨y, _, rfl⟩ := List.mem_map.1 hc; exact y.len) (by decide) hi
theorem rows_hiEn {w : World} {A : Option Addr} {n cap i : Nat} {l : List Ent} (h : RowsAt w (.slice A n cap) 6 (l.map Ent.enc)) (hi : i ≤ n) : RowsAt w (.slice A i cap) 6 ((l.take i).map Ent.enc) := by
  rw [List.map_take]
  exact h.firsts hi
end Go.Proofs.Ytknccbdcfpncnaa
