/- Slices of words of 32 bits: what they hold, literals, append. -/
import Derived.Test.YtpcdbpijgmninaaDoorGb
namespace Go.Proofs.YtpcdbpijgmninaaDoor
set_option maxRecDepth 100000
open Go.RowKit

theorem word_info : (Tryd.prog.info? 115).map (fun i => (i.zero, i.size, i.bytes)) = some (some (.int .u32 0), 1, 4) := by kernel_rfl
/-- The slice v is just these words. -/
def WordsAt (w : World) (v : Value) (l : List UInt32) : Prop :=
  ∃ b off cap, v = .slice (some ⟨b, off, none⟩) l.length cap ∧ l.length ≤ cap ∧ b < w.heap.size ∧ ∀ j x, l[j]? = some x → w.cell? ⟨b, off + j, none⟩ = some (wd x)
theorem WordsAt.below {w w' : World} {v : Value} {l : List UInt32} (h : WordsAt w v l) (hb : Below w.heap.size w w') : WordsAt w' v l := by
  obtain ⟨b, off, cap, rfl, hc, hlt, hcell⟩ := h
  exact ⟨b, off, cap, rfl, hc, Nat.lt_of_lt_of_le hlt hb.size, fun j x hj => (hb.cell (p := ⟨b, off + j, none⟩) hlt).trans (hcell j x hj)⟩
theorem WordsAt.of_heap {w w' : World} {v : Value} {l : List UInt32} (h : WordsAt w v l) (hh : w'.heap = w.heap) : WordsAt w' v l := by
  obtain ⟨b, off, cap, rfl, hc, hlt, hcell⟩ := h
  refine ⟨b, off, cap, rfl, hc, by rw [hh]; exact hlt, fun j x hj => ?_⟩
  rw [← hcell j x hj]
  exact World.cell?_of_block (by rw [hh])
theorem WordsAt.whole {w : World} {g : Nat} {t : TypeId} {l : List UInt32} (h : Whole w g t (wv l)) : WordsAt w (.slice (some ⟨g, 0, none⟩) l.length l.length) l :=
  ⟨g, 0, _, rfl, Nat.le_refl _, h.lt, fun j x hj => by rw [Nat.zero_add]; exact (h.at_ j).trans (wv_at _ _ _ hj)⟩
theorem WordsAt.of_own {w : World} {base : Nat} {v : Value} {l : List UInt32} (h : w.ownsRow base 115 1 v l.length (l.map wd)) (hl : 0 < l.length) : WordsAt w v l := by
  have hc := @World.ownsRow.cells _ _ _ _ _ _ _ h
  have hlt := h.lt
  rcases h.2 with ⟨rfl, hn⟩ | ⟨g, cap, cur, rfl, _, _, hcap, _⟩
  · omega
  · refine ⟨g, 0, cap, rfl, hcap, (hlt g rfl).2, fun j x hj => ?_⟩
    have q := hc (g := g) rfl j (wd x) (by simp [hj])
    have ha : (⟨g, 0, none⟩ : Addr).add j = ⟨g, 0 + j, none⟩ := by unfold Addr.add; split <;> simp_all
    rwa [ha] at q

theorem lit_wd1 (x : UInt32) (w : World) : (Instr.buildSlice 112 1 #[(0, wd x)]).run Tryd.prog w = .ok (.slice (some ⟨w.heap.size, 0, none⟩) 1 1) (w.alloc (.cells (wv [x]) 115)) := by kernel_rfl
theorem lit_wd8 (x0 x1 x2 x3 x4 x5 x6 x7 : UInt32) (w : World) : (Instr.buildSlice 112 8 #[(0, wd x0), (1, wd x1), (2, wd x2), (3, wd x3), (4, wd x4), (5, wd x5), (6, wd x6), (7, wd x7)]).run Tryd.prog w =
    .ok (.slice (some ⟨w.heap.size, 0, none⟩) 8 8) (w.alloc (.cells (wv [x0, x1, x2, x3, x4, x5, x6, x7]) 115)) := by kernel_rfl

section
variable {ops : Array Oper} {rest : List Oper} {o : Oper} {a : Act} {w : World} {Q : Exit → Act → World → Prop}
theorem wpList_lit_wd1 (hgd : o.guard = none) (p : Operand) (ho : o.op = .buildSlice 112 1 #[(0, p)]) (x : UInt32) (hp : a.eval p = wd x)
    (h : ∀ w', Below w.heap.size w w' → Whole w' w.heap.size 115 (wv [x]) → w.grownBy w' none → wpList Tryd.prog ops Q rest (a.put o.dst (.slice (some ⟨w.heap.size, 0, none⟩) 1 1)) w') : wpList Tryd.prog ops Q (o :: rest) a w := by
  refine wpList_plain hgd fun K hK => ?_
  have q := hK _ _ (h _ ((Below.refl _ _).alloc (Nat.le_refl _) _) (Whole.new w 115 (wv [x])) ⟨rfl, rfl, rfl, by simp, fun k hk _ => Below.heap_alloc w _ k hk⟩)
  unfold Oper.wp execOp
  simp only [ho, List.map_toArray, List.map_cons, List.map_nil, hp, lit_wd1, Sem.run_bind, Sem.run_pure, Result.andThen_ok, Oper.upon]
  exact q
theorem wpList_lit_wd8 (hgd : o.guard = none) (p0 p1 p2 p3 p4 p5 p6 p7 : Operand) (ho : o.op = .buildSlice 112 8 #[(0, p0), (1, p1), (2, p2), (3, p3), (4, p4), (5, p5), (6, p6), (7, p7)]) (x0 x1 x2 x3 x4 x5 x6 x7 : UInt32)
    (h0 : a.eval p0 = wd x0) (h1 : a.eval p1 = wd x1) (h2 : a.eval p2 = wd x2) (h3 : a.eval p3 = wd x3) (h4 : a.eval p4 = wd x4) (h5 : a.eval p5 = wd x5) (h6 : a.eval p6 = wd x6) (h7 : a.eval p7 = wd x7)
    (h : ∀ w', Below w.heap.size w w' → Whole w' w.heap.size 115 (wv [x0, x1, x2, x3, x4, x5, x6, x7]) → wpList Tryd.prog ops Q rest (a.put o.dst (.slice (some ⟨w.heap.size, 0, none⟩) 8 8)) w') : wpList Tryd.prog ops Q (o :: rest) a w := by
  refine wpList_plain hgd fun K hK => ?_
  have q := hK _ _ (h _ ((Below.refl _ _).alloc (Nat.le_refl _) _) (Whole.new w 115 (wv [x0, x1, x2, x3, x4, x5, x6, x7])))
  unfold Oper.wp execOp
  simp only [ho, List.map_toArray, List.map_cons, List.map_nil, h0, h1, h2, h3, h4, h5, h6, h7, lit_wd8, Sem.run_bind, Sem.run_pure, Result.andThen_ok, Oper.upon]
  exact q
theorem wp_lit_wd1 {K : Act → World → Prop} (p : Operand) (ho : o.op = .buildSlice 112 1 #[(0, p)]) (x : UInt32) (hp : a.eval p = wd x)
    (h : ∀ w', Below w.heap.size w w' → Whole w' w.heap.size 115 (wv [x]) → w.grownBy w' none → K (a.put o.dst (.slice (some ⟨w.heap.size, 0, none⟩) 1 1)) w') : o.wp Tryd.prog a w K Q := by
  have q := h _ ((Below.refl _ _).alloc (Nat.le_refl _) _) (Whole.new w 115 (wv [x])) ⟨rfl, rfl, rfl, by simp, fun k hk _ => Below.heap_alloc w _ k hk⟩
  unfold Oper.wp execOp
  simp only [ho, List.map_toArray, List.map_cons, List.map_nil, hp, lit_wd1, Sem.run_bind, Sem.run_pure, Result.andThen_ok, Oper.upon]
  exact q
theorem wp_append_wd {K : Act → World → Prop} (s x : Operand) (ho : o.op = .call { callee := .builtin .append, args := #[s, x], argTypes := #[112, 112] })
    (base : Nat) (v : Value) (n : Nat) (xs : List Value) (hv : a.eval s = v) (hown : w.ownsRow base 115 1 v n xs) (g : Nat) (y : UInt32) (hx : a.eval x = .slice (some ⟨g, 0, none⟩) 1 1) (hg : Whole w g 115 (wv [y])) (hlen : n ≤ 1000) (hbase : base ≤ w.heap.size)
    (h : ∀ v' w', w'.ownsRow base 115 1 v' (n + 1) (xs ++ [wd y]) → w.grownBy w' v.ownBlock → K (a.put o.dst v') w') : o.wp Tryd.prog a w K Q := by
  obtain ⟨i0, hi0, hz0, hz1, hz2⟩ := info_parts word_info
  obtain ⟨v', w', hr, h2, h3, _⟩ := run_append_own (P := Tryd.prog) w base 112 o.type 115 i0 (.int .u32 0) 1 4 Tryd.underlying112 hi0 hz0 hz1 hz2 rfl (by decide) v n xs hown ⟨g, 0, none⟩ 1 1 [wd y] rfl (fun j u hu => by
      have ha : (⟨g, 0, none⟩ : Addr).add j = ⟨g, j, none⟩ := by unfold Addr.add; split <;> simp_all
      rw [ha, hg.at_ j]
      simpa [wv] using hu) (fun u hu => by
      simp at hu
      subst hu
      rfl) (by simp only [maxLen]; omega) (by omega) hbase
  have q := h v' w' h2 h3
  unfold Oper.wp execOp
  simp only [ho, resolve, invoke, builtin, Sem.run_bind, Sem.run_pure, Result.andThen_ok, List.map_toArray, List.map_cons, List.map_nil, hv, hx, hr]
  exact q
/-- A word behind words of one's own. -/
theorem wpList_append_wd (hgd : o.guard = none) (s x : Operand) (ho : o.op = .call { callee := .builtin .append, args := #[s, x], argTypes := #[112, 112] })
    (base : Nat) (v : Value) (n : Nat) (xs : List Value) (hv : a.eval s = v) (hown : w.ownsRow base 115 1 v n xs) (g : Nat) (y : UInt32) (hx : a.eval x = .slice (some ⟨g, 0, none⟩) 1 1) (hg : Whole w g 115 (wv [y])) (hlen : n ≤ 1000) (hbase : base ≤ w.heap.size)
    (h : ∀ v' w', w'.ownsRow base 115 1 v' (n + 1) (xs ++ [wd y]) → w.grownBy w' v.ownBlock → wpList Tryd.prog ops Q rest (a.put o.dst v') w') : wpList Tryd.prog ops Q (o :: rest) a w := by
  refine wpList_plain hgd fun K hK => ?_
  obtain ⟨i0, hi0, hz0, hz1, hz2⟩ := info_parts word_info
  obtain ⟨v', w', hr, h2, h3, _⟩ := run_append_own (P := Tryd.prog) w base 112 o.type 115 i0 (.int .u32 0) 1 4 Tryd.underlying112 hi0 hz0 hz1 hz2 rfl (by decide) v n xs hown ⟨g, 0, none⟩ 1 1 [wd y] rfl (fun j u hu => by
      have ha : (⟨g, 0, none⟩ : Addr).add j = ⟨g, j, none⟩ := by unfold Addr.add; split <;> simp_all
      rw [ha, hg.at_ j]
      simpa [wv] using hu) (fun u hu => by
      simp at hu
      subst hu
      rfl) (by simp only [maxLen]; omega) (by omega) hbase
  have q := hK _ _ (h v' w' h2 h3)
  unfold Oper.wp execOp
  simp only [ho, resolve, invoke, builtin, Sem.run_bind, Sem.run_pure, Result.andThen_ok, List.map_toArray, List.map_cons, List.map_nil, hv, hx, hr]
  exact q
end
theorem lit_wd4 (x0 x1 x2 x3 : UInt32) (w : World) : (Instr.buildSlice 112 4 #[(0, wd x0), (1, wd x1), (2, wd x2), (3, wd x3)]).run Tryd.prog w =
    .ok (.slice (some ⟨w.heap.size, 0, none⟩) 4 4) (w.alloc (.cells (wv [x0, x1, x2, x3]) 115)) := by kernel_rfl
theorem own_words_lit (w : World) (l : List UInt32) (hl : l.length ≤ 1000000) : (w.alloc (.cells (wv l) 115)).ownsRow w.heap.size 115 1 (.slice (some ⟨w.heap.size, 0, none⟩) l.length l.length) l.length (l.map wd) := by
  have h := World.ownsRow_lit (e := 115) (base := w.heap.size) (size := 1) w (wv l) l.length (Nat.le_refl _) (by simp only [maxLen]; omega) (by rw [wv_size]; omega)
  have e : (wv l).toList = l.map wd := by simp [wv]
  rwa [e] at h

section
variable {ops : Array Oper} {rest : List Oper} {o : Oper} {a : Act} {w : World} {Q : Exit → Act → World → Prop}
theorem wp_lit_wd4 {K : Act → World → Prop} (p0 p1 p2 p3 : Operand) (ho : o.op = .buildSlice 112 4 #[(0, p0), (1, p1), (2, p2), (3, p3)]) (x0 x1 x2 x3 : UInt32)
    (h0 : a.eval p0 = wd x0) (h1 : a.eval p1 = wd x1) (h2 : a.eval p2 = wd x2) (h3 : a.eval p3 = wd x3)
    (h : ∀ w', Below w.heap.size w w' → Whole w' w.heap.size 115 (wv [x0, x1, x2, x3]) → w.grownBy w' none → K (a.put o.dst (.slice (some ⟨w.heap.size, 0, none⟩) 4 4)) w') : o.wp Tryd.prog a w K Q := by
  have q := h _ ((Below.refl _ _).alloc (Nat.le_refl _) _) (Whole.new w 115 (wv [x0, x1, x2, x3])) ⟨rfl, rfl, rfl, by simp, fun k hk _ => Below.heap_alloc w _ k hk⟩
  unfold Oper.wp execOp
  simp only [ho, List.map_toArray, List.map_cons, List.map_nil, h0, h1, h2, h3, lit_wd4, Sem.run_bind, Sem.run_pure, Result.andThen_ok, Oper.upon]
  exact q
theorem run_append_words (w : World) (base : Nat) (ty : TypeId) (v : Value) (n : Nat) (xs : List Value) (hown : w.ownsRow base 115 1 v n xs) (src : Value) (l : List UInt32) (hs : WordsAt w src l)
    (hlen : n + l.length ≤ 1000000) (hbase : base ≤ w.heap.size) :
    ∃ v' w', (Builtin.append_ #[112, 112] ty #[v, src]).run Tryd.prog w = .ok v' w' ∧ w'.ownsRow base 115 1 v' (n + l.length) (xs ++ l.map wd) ∧ w.grownBy w' v.ownBlock := by
  obtain ⟨i0, hi0, hz0, hz1, hz2⟩ := info_parts word_info
  obtain ⟨b, off, cap, rfl, hcap, hlt, hcell⟩ := hs
  obtain ⟨v', w', hr, ho, hg, _⟩ := run_append_own (P := Tryd.prog) w base 112 ty 115 i0 (.int .u32 0) 1 4 Tryd.underlying112 hi0 hz0 hz1 hz2 rfl (by decide) v n xs hown ⟨b, off, none⟩ l.length cap (l.map wd) (by simp) (fun j u hu => by
      have ha : (⟨b, off, none⟩ : Addr).add j = ⟨b, off + j, none⟩ := by unfold Addr.add; split <;> simp_all
      rw [ha]
      simp only [List.getElem?_map, Option.map_eq_some_iff] at hu
      obtain ⟨x, hx, rfl⟩ := hu
      exact hcell j x hx) (fun u hu => by
      simp only [List.mem_map] at hu
      obtain ⟨x, _, rfl⟩ := hu
      rfl) (by simp only [maxLen]; omega) (by omega) hbase
  exact ⟨v', w', hr, ho, hg⟩
theorem wp_append_words {K : Act → World → Prop} (s x : Operand) (ho : o.op = .call { callee := .builtin .append, args := #[s, x], argTypes := #[112, 112] })
    (base : Nat) (v : Value) (n : Nat) (xs : List Value) (hv : a.eval s = v) (hown : w.ownsRow base 115 1 v n xs) (src : Value) (l : List UInt32) (hx : a.eval x = src) (hs : WordsAt w src l) (hlen : n + l.length ≤ 1000000) (hbase : base ≤ w.heap.size)
    (h : ∀ v' w', w'.ownsRow base 115 1 v' (n + l.length) (xs ++ l.map wd) → w.grownBy w' v.ownBlock → K (a.put o.dst v') w') : o.wp Tryd.prog a w K Q := by
  obtain ⟨v', w', hr, h2, h3⟩ := run_append_words w base o.type v n xs hown src l hs hlen hbase
  unfold Oper.wp execOp
  simp only [ho, resolve, invoke, builtin, Sem.run_bind, Sem.run_pure, Result.andThen_ok, List.map_toArray, List.map_cons, List.map_nil, hv, hx, hr]
  exact h v' w' h2 h3
theorem wpList_append_words (hgd : o.guard = none) (s x : Operand) (ho : o.op = .call { callee := .builtin .append, args := #[s, x], argTypes := #[112, 112] })
    (base : Nat) (v : Value) (n : Nat) (xs : List Value) (hv : a.eval s = v) (hown : w.ownsRow base 115 1 v n xs) (src : Value) (l : List UInt32) (hx : a.eval x = src) (hs : WordsAt w src l) (hlen : n + l.length ≤ 1000000) (hbase : base ≤ w.heap.size)
    (h : ∀ v' w', w'.ownsRow base 115 1 v' (n + l.length) (xs ++ l.map wd) → w.grownBy w' v.ownBlock → wpList Tryd.prog ops Q rest (a.put o.dst v') w') : wpList Tryd.prog ops Q (o :: rest) a w :=
  wpList_plain hgd fun _ hK => wp_append_words s x ho base v n xs hv hown src l hx hs hlen hbase fun v' w' h2 h3 => hK _ _ (h v' w' h2 h3)
end
/-- A word stored among words of one's own. -/
theorem wp_store_own {o : Oper} {a : Act} {w : World} {Q : Exit → Act → World → Prop} {K : Act → World → Prop} (x y : Operand) (ho : o.op = .store 115 x y)
    (base g i n cap : Nat) (hx : a.eval x = .pointer (some ⟨g, i, none⟩)) (v : UInt32) (hy : a.eval y = wd v) (l : List UInt32) (hl : l.length = n) (hown : w.ownsRow base 115 1 (.slice (some ⟨g, 0, none⟩) n cap) n (l.map wd)) (hi : i < n)
    (h : ∀ w', w.grownBy w' (some g) → w'.ownsRow base 115 1 (.slice (some ⟨g, 0, none⟩) n cap) n ((l.set i v).map wd) → K (a.put o.dst undef) w') : o.wp Tryd.prog a w K Q := by
  have c1 : w.cell? ⟨g, i, none⟩ = some (wd (l[i]'(by omega))) := (hown.cellAt i (by omega)).trans (by simp [List.getElem?_eq_getElem (show i < l.length by omega)])
  have q := (hown.stored i (wd v)).1
  rw [show (l.map wd).set i (wd v) = (l.set i v).map wd by simp [List.map_set]] at q
  have hh := h _ (grown_store w g i (wd v)) q
  have hz : (sizeOf 115).run Tryd.prog w = .ok 1 w := by kernel_rfl
  unfold Oper.wp execOp
  have hc : (wd v).cells = #[wd v] := rfl
  simp only [ho, hx, hy, Instr.storeAt, Instr.sureAddr, storeVar, hc, Sem.run_bind, Sem.run_pure, Result.andThen_ok, hz, List.size_toArray, List.length_cons, List.length_nil, ne_eq, not_true_eq_false, if_false, store_wd w g i _ c1 (hown.frozenAt i) v, Oper.upon]
  exact hh
theorem WordsAt.at_ {w : World} {g off n cap : Nat} {l : List UInt32} (h : WordsAt w (.slice (some ⟨g, off, none⟩) n cap) l) (j : Nat) (x : UInt32) (hj : l[j]? = some x) : w.cell? ⟨g, off + j, none⟩ = some (wd x) := by
  obtain ⟨b, o, c, e, -, -, hc⟩ := h
  injection e with e1 _ _
  injection e1 with e1
  injection e1 with e1 e2 _
  subst e1 e2
  exact hc j x hj
end Go.Proofs.YtpcdbpijgmninaaDoor
