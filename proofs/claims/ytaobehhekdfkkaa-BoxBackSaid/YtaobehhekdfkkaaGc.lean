/- Slices of words of 32 bits: what they hold, literals, append. A statement that leaves its order open, in which all stores wait for all reads: two conditions on the world, S0 until the first store, S1 from the beginning to the end. -/
import Derived.Test.YtaobehhekdfkkaaGa
import Derived.Test.YtaobehhekdfkkaaGb
namespace Go.Proofs.Ytaobehhekdfkkaa
open Go.RowKit

theorem word_info : (Try.prog.info? 36).map (fun i => (i.zero, i.size, i.bytes)) = some (some (.int .u32 0), 1, 4) := by kernel_rfl
/-- The slice v is just these words. -/
def WordsAt (w : World) (v : Value) (l : List UInt32) : Prop :=
  ∃ b off cap, v = .slice (some ⟨b, off, none⟩) l.length cap ∧ l.length ≤ cap ∧ b < w.heap.size ∧ ∀ j x, l[j]? = some x → w.cell? ⟨b, off + j, none⟩ = some (wd x)
theorem WordsAt.below {w w' : World} {v : Value} {l : List UInt32} (h : WordsAt w v l) (hb : Below w.heap.size w w') : WordsAt w' v l := by
  obtain ⟨b, off, cap, rfl, hc, hlt, hcell⟩ := h
  exact ⟨b, off, cap, rfl, hc, Nat.lt_of_lt_of_le hlt hb.size, fun j x hj => (hb.cell (p := ⟨b, off + j, none⟩) hlt).trans (hcell j x hj)⟩
theorem WordsAt.of_heap {w w' : World} {v : Value} {l : List UInt32} (h : WordsAt w v l) (hh : w'.heap = w.heap) : WordsAt w' v l := by
  obtain ⟨b, off, cap, rfl, hc, hlt, hcell⟩ := h
  refine ⟨b, off, cap, rfl, hc, by rw [hh]; exact hlt, fun j x hj => ?_⟩
  rw [← hcell j x hj]
  exact World.cell?_of_block (by rw [hh])
theorem WordsAt.whole {w : World} {g : Nat} {t : TypeId} {l : List UInt32} (h : Whole w g t (wv l)) : WordsAt w (.slice (some ⟨g, 0, none⟩) l.length l.length) l :=
  ⟨g, 0, _, rfl, Nat.le_refl _, h.lt, fun j x hj => by rw [Nat.zero_add]; exact (h.at_ j).trans (wv_at _ _ _ hj)⟩
theorem WordsAt.of_own {w : World} {base : Nat} {v : Value} {l : List UInt32} (h : w.ownsRow base 36 1 v l.length (l.map wd)) (hl : 0 < l.length) : WordsAt w v l := by
  have hc := @World.ownsRow.cells _ _ _ _ _ _ _ h
  have hlt := h.lt
  rcases h.2 with ⟨rfl, hn⟩ | ⟨g, cap, cur, rfl, _, _, hcap, _⟩
  · omega
  · refine ⟨g, 0, cap, rfl, hcap, (hlt g rfl).2, fun j x hj => ?_⟩
    have q := hc (g := g) rfl j (wd x) (by simp [hj])
    have ha : (⟨g, 0, none⟩ : Addr).add j = ⟨g, 0 + j, none⟩ := by unfold Addr.add; split <;> simp_all
    rwa [ha] at q

theorem lit_wd1 (x : UInt32) (w : World) : (Instr.buildSlice 72 1 #[(0, wd x)]).run Try.prog w = .ok (.slice (some ⟨w.heap.size, 0, none⟩) 1 1) (w.alloc (.cells (wv [x]) 36)) := by kernel_rfl
theorem lit_wd8 (x0 x1 x2 x3 x4 x5 x6 x7 : UInt32) (w : World) : (Instr.buildSlice 72 8 #[(0, wd x0), (1, wd x1), (2, wd x2), (3, wd x3), (4, wd x4), (5, wd x5), (6, wd x6), (7, wd x7)]).run Try.prog w =
    .ok (.slice (some ⟨w.heap.size, 0, none⟩) 8 8) (w.alloc (.cells (wv [x0, x1, x2, x3, x4, x5, x6, x7]) 36)) := by kernel_rfl

section
variable {ops : Array Oper} {rest : List Oper} {o : Oper} {a : Act} {w : World} {Q : Exit → Act → World → Prop}
theorem wpList_lit_wd1 (hgd : o.guard = none) (p : Operand) (ho : o.op = .buildSlice 72 1 #[(0, p)]) (x : UInt32) (hp : a.eval p = wd x)
    (h : ∀ w', Below w.heap.size w w' → Whole w' w.heap.size 36 (wv [x]) → w.grownBy w' none → wpList Try.prog ops Q rest (a.put o.dst (.slice (some ⟨w.heap.size, 0, none⟩) 1 1)) w') : wpList Try.prog ops Q (o :: rest) a w := by
  refine wpList_plain hgd fun K hK => ?_
  have q := hK _ _ (h _ ((Below.refl _ _).alloc (Nat.le_refl _) _) (Whole.new w 36 (wv [x])) ⟨rfl, rfl, rfl, by simp, fun k hk _ => Below.heap_alloc w _ k hk⟩)
  unfold Oper.wp execOp
  simp only [ho, List.map_toArray, List.map_cons, List.map_nil, hp, lit_wd1, Sem.run_bind, Sem.run_pure, Result.andThen_ok, Oper.upon]
  exact q
theorem wpList_lit_wd8 (hgd : o.guard = none) (p0 p1 p2 p3 p4 p5 p6 p7 : Operand) (ho : o.op = .buildSlice 72 8 #[(0, p0), (1, p1), (2, p2), (3, p3), (4, p4), (5, p5), (6, p6), (7, p7)]) (x0 x1 x2 x3 x4 x5 x6 x7 : UInt32)
    (h0 : a.eval p0 = wd x0) (h1 : a.eval p1 = wd x1) (h2 : a.eval p2 = wd x2) (h3 : a.eval p3 = wd x3) (h4 : a.eval p4 = wd x4) (h5 : a.eval p5 = wd x5) (h6 : a.eval p6 = wd x6) (h7 : a.eval p7 = wd x7)
    (h : ∀ w', Below w.heap.size w w' → Whole w' w.heap.size 36 (wv [x0, x1, x2, x3, x4, x5, x6, x7]) → wpList Try.prog ops Q rest (a.put o.dst (.slice (some ⟨w.heap.size, 0, none⟩) 8 8)) w') : wpList Try.prog ops Q (o :: rest) a w := by
  refine wpList_plain hgd fun K hK => ?_
  have q := hK _ _ (h _ ((Below.refl _ _).alloc (Nat.le_refl _) _) (Whole.new w 36 (wv [x0, x1, x2, x3, x4, x5, x6, x7])))
  unfold Oper.wp execOp
  simp only [ho, List.map_toArray, List.map_cons, List.map_nil, h0, h1, h2, h3, h4, h5, h6, h7, lit_wd8, Sem.run_bind, Sem.run_pure, Result.andThen_ok, Oper.upon]
  exact q
theorem wp_lit_wd1 {K : Act → World → Prop} (p : Operand) (ho : o.op = .buildSlice 72 1 #[(0, p)]) (x : UInt32) (hp : a.eval p = wd x)
    (h : ∀ w', Below w.heap.size w w' → Whole w' w.heap.size 36 (wv [x]) → w.grownBy w' none → K (a.put o.dst (.slice (some ⟨w.heap.size, 0, none⟩) 1 1)) w') : o.wp Try.prog a w K Q := by
  have q := h _ ((Below.refl _ _).alloc (Nat.le_refl _) _) (Whole.new w 36 (wv [x])) ⟨rfl, rfl, rfl, by simp, fun k hk _ => Below.heap_alloc w _ k hk⟩
  unfold Oper.wp execOp
  simp only [ho, List.map_toArray, List.map_cons, List.map_nil, hp, lit_wd1, Sem.run_bind, Sem.run_pure, Result.andThen_ok, Oper.upon]
  exact q
theorem wp_append_wd {K : Act → World → Prop} (s x : Operand) (ho : o.op = .call { callee := .builtin .append, args := #[s, x], argTypes := #[72, 72] })
    (base : Nat) (v : Value) (n : Nat) (xs : List Value) (hv : a.eval s = v) (hown : w.ownsRow base 36 1 v n xs) (g : Nat) (y : UInt32) (hx : a.eval x = .slice (some ⟨g, 0, none⟩) 1 1) (hg : Whole w g 36 (wv [y])) (hlen : n ≤ 1000) (hbase : base ≤ w.heap.size)
    (h : ∀ v' w', w'.ownsRow base 36 1 v' (n + 1) (xs ++ [wd y]) → w.grownBy w' v.ownBlock → K (a.put o.dst v') w') : o.wp Try.prog a w K Q := by
  obtain ⟨i0, hi0, hz0, hz1, hz2⟩ := info_parts word_info
  obtain ⟨v', w', hr, h2, h3, _⟩ := run_append_own (P := Try.prog) w base 72 o.type 36 i0 (.int .u32 0) 1 4 Try.underlying72 hi0 hz0 hz1 hz2 rfl (by decide) v n xs hown ⟨g, 0, none⟩ 1 1 [wd y] rfl (fun j u hu => by
      have ha : (⟨g, 0, none⟩ : Addr).add j = ⟨g, j, none⟩ := by unfold Addr.add; split <;> simp_all
      rw [ha, hg.at_ j]
      simpa [wv] using hu) (fun u hu => by
      simp at hu
      subst hu
      rfl) (by simp only [maxLen]; omega) (by omega) hbase
  have q := h v' w' h2 h3
  unfold Oper.wp execOp
  simp only [ho, resolve, invoke, builtin, Sem.run_bind, Sem.run_pure, Result.andThen_ok, List.map_toArray, List.map_cons, List.map_nil, hv, hx, hr]
  exact q
/-- A word behind words of one's own. -/
theorem wpList_append_wd (hgd : o.guard = none) (s x : Operand) (ho : o.op = .call { callee := .builtin .append, args := #[s, x], argTypes := #[72, 72] })
    (base : Nat) (v : Value) (n : Nat) (xs : List Value) (hv : a.eval s = v) (hown : w.ownsRow base 36 1 v n xs) (g : Nat) (y : UInt32) (hx : a.eval x = .slice (some ⟨g, 0, none⟩) 1 1) (hg : Whole w g 36 (wv [y])) (hlen : n ≤ 1000) (hbase : base ≤ w.heap.size)
    (h : ∀ v' w', w'.ownsRow base 36 1 v' (n + 1) (xs ++ [wd y]) → w.grownBy w' v.ownBlock → wpList Try.prog ops Q rest (a.put o.dst v') w') : wpList Try.prog ops Q (o :: rest) a w := by
  refine wpList_plain hgd fun K hK => ?_
  obtain ⟨i0, hi0, hz0, hz1, hz2⟩ := info_parts word_info
  obtain ⟨v', w', hr, h2, h3, _⟩ := run_append_own (P := Try.prog) w base 72 o.type 36 i0 (.int .u32 0) 1 4 Try.underlying72 hi0 hz0 hz1 hz2 rfl (by decide) v n xs hown ⟨g, 0, none⟩ 1 1 [wd y] rfl (fun j u hu => by
      have ha : (⟨g, 0, none⟩ : Addr).add j = ⟨g, j, none⟩ := by unfold Addr.add; split <;> simp_all
      rw [ha, hg.at_ j]
      simpa [wv] using hu) (fun u hu => by
      simp at hu
      subst hu
      rfl) (by simp only [maxLen]; omega) (by omega) hbase
  have q := hK _ _ (h v' w' h2 h3)
  unfold Oper.wp execOp
  simp only [ho, resolve, invoke, builtin, Sem.run_bind, Sem.run_pure, Result.andThen_ok, List.map_toArray, List.map_cons, List.map_nil, hv, hx, hr]
  exact q
end
theorem lit_wd4 (x0 x1 x2 x3 : UInt32) (w : World) : (Instr.buildSlice 72 4 #[(0, wd x0), (1, wd x1), (2, wd x2), (3, wd x3)]).run Try.prog w =
    .ok (.slice (some ⟨w.heap.size, 0, none⟩) 4 4) (w.alloc (.cells (wv [x0, x1, x2, x3]) 36)) := by kernel_rfl
theorem own_words_lit (w : World) (l : List UInt32) (hl : l.length ≤ 1000000) : (w.alloc (.cells (wv l) 36)).ownsRow w.heap.size 36 1 (.slice (some ⟨w.heap.size, 0, none⟩) l.length l.length) l.length (l.map wd) := by
  have h := World.ownsRow_lit (e := 36) (base := w.heap.size) (size := 1) w (wv l) l.length (Nat.le_refl _) (by simp only [maxLen]; omega) (by rw [wv_size]; omega)
  have e : (wv l).toList = l.map wd := by simp [wv]
  rwa [e] at h

section
variable {ops : Array Oper} {rest : List Oper} {o : Oper} {a : Act} {w : World} {Q : Exit → Act → World → Prop}
theorem wp_lit_wd4 {K : Act → World → Prop} (p0 p1 p2 p3 : Operand) (ho : o.op = .buildSlice 72 4 #[(0, p0), (1, p1), (2, p2), (3, p3)]) (x0 x1 x2 x3 : UInt32)
    (h0 : a.eval p0 = wd x0) (h1 : a.eval p1 = wd x1) (h2 : a.eval p2 = wd x2) (h3 : a.eval p3 = wd x3)
    (h : ∀ w', Below w.heap.size w w' → Whole w' w.heap.size 36 (wv [x0, x1, x2, x3]) → w.grownBy w' none → K (a.put o.dst (.slice (some ⟨w.heap.size, 0, none⟩) 4 4)) w') : o.wp Try.prog a w K Q := by
  have q := h _ ((Below.refl _ _).alloc (Nat.le_refl _) _) (Whole.new w 36 (wv [x0, x1, x2, x3])) ⟨rfl, rfl, rfl, by simp, fun k hk _ => Below.heap_alloc w _ k hk⟩
  unfold Oper.wp execOp
  simp only [ho, List.map_toArray, List.map_cons, List.map_nil, h0, h1, h2, h3, lit_wd4, Sem.run_bind, Sem.run_pure, Result.andThen_ok, Oper.upon]
  exact q
theorem run_append_words (w : World) (base : Nat) (ty : TypeId) (v : Value) (n : Nat) (xs : List Value) (hown : w.ownsRow base 36 1 v n xs) (src : Value) (l : List UInt32) (hs : WordsAt w src l)
    (hlen : n + l.length ≤ 1000000) (hbase : base ≤ w.heap.size) :
    ∃ v' w', (Builtin.append_ #[72, 72] ty #[v, src]).run Try.prog w = .ok v' w' ∧ w'.ownsRow base 36 1 v' (n + l.length) (xs ++ l.map wd) ∧ w.grownBy w' v.ownBlock := by
  obtain ⟨i0, hi0, hz0, hz1, hz2⟩ := info_parts word_info
  obtain ⟨b, off, cap, rfl, hcap, hlt, hcell⟩ := hs
  obtain ⟨v', w', hr, ho, hg, _⟩ := run_append_own (P := Try.prog) w base 72 ty 36 i0 (.int .u32 0) 1 4 Try.underlying72 hi0 hz0 hz1 hz2 rfl (by decide) v n xs hown ⟨b, off, none⟩ l.length cap (l.map wd) (by simp) (fun j u hu => by
      have ha : (⟨b, off, none⟩ : Addr).add j = ⟨b, off + j, none⟩ := by unfold Addr.add; split <;> simp_all
      rw [ha]
      simp only [List.getElem?_map, Option.map_eq_some_iff] at hu
      obtain ⟨x, hx, rfl⟩ := hu
      exact hcell j x hx) (fun u hu => by
      simp only [List.mem_map] at hu
      obtain ⟨x, _, rfl⟩ := hu
      rfl) (by simp only [maxLen]; omega) (by omega) hbase
  exact ⟨v', w', hr, ho, hg⟩
theorem wp_append_words {K : Act → World → Prop} (s x : Operand) (ho : o.op = .call { callee := .builtin .append, args := #[s, x], argTypes := #[72, 72] })
    (base : Nat) (v : Value) (n : Nat) (xs : List Value) (hv : a.eval s = v) (hown : w.ownsRow base 36 1 v n xs) (src : Value) (l : List UInt32) (hx : a.eval x = src) (hs : WordsAt w src l) (hlen : n + l.length ≤ 1000000) (hbase : base ≤ w.heap.size)
    (h : ∀ v' w', w'.ownsRow base 36 1 v' (n + l.length) (xs ++ l.map wd) → w.grownBy w' v.ownBlock → K (a.put o.dst v') w') : o.wp Try.prog a w K Q := by
  obtain ⟨v', w', hr, h2, h3⟩ := run_append_words w base o.type v n xs hown src l hs hlen hbase
  unfold Oper.wp execOp
  simp only [ho, resolve, invoke, builtin, Sem.run_bind, Sem.run_pure, Result.andThen_ok, List.map_toArray, List.map_cons, List.map_nil, hv, hx, hr]
  exact h v' w' h2 h3
theorem wpList_append_words (hgd : o.guard = none) (s x : Operand) (ho : o.op = .call { callee := .builtin .append, args := #[s, x], argTypes := #[72, 72] })
    (base : Nat) (v : Value) (n : Nat) (xs : List Value) (hv : a.eval s = v) (hown : w.ownsRow base 36 1 v n xs) (src : Value) (l : List UInt32) (hx : a.eval x = src) (hs : WordsAt w src l) (hlen : n + l.length ≤ 1000000) (hbase : base ≤ w.heap.size)
    (h : ∀ v' w', w'.ownsRow base 36 1 v' (n + l.length) (xs ++ l.map wd) → w.grownBy w' v.ownBlock → wpList Try.prog ops Q rest (a.put o.dst v') w') : wpList Try.prog ops Q (o :: rest) a w :=
  wpList_plain hgd fun _ hK => wp_append_words s x ho base v n xs hv hown src l hx hs hlen hbase fun v' w' h2 h3 => hK _ _ (h v' w' h2 h3)
end
/-- A word stored among words of one's own. -/
theorem wp_store_own {o : Oper} {a : Act} {w : World} {Q : Exit → Act → World → Prop} {K : Act → World → Prop} (x y : Operand) (ho : o.op = .store 36 x y)
    (base g i n cap : Nat) (hx : a.eval x = .pointer (some ⟨g, i, none⟩)) (v : UInt32) (hy : a.eval y = wd v) (l : List UInt32) (hl : l.length = n) (hown : w.ownsRow base 36 1 (.slice (some ⟨g, 0, none⟩) n cap) n (l.map wd)) (hi : i < n)
    (h : ∀ w', w.grownBy w' (some g) → w'.ownsRow base 36 1 (.slice (some ⟨g, 0, none⟩) n cap) n ((l.set i v).map wd) → K (a.put o.dst undef) w') : o.wp Try.prog a w K Q := by
  have c1 : w.cell? ⟨g, i, none⟩ = some (wd (l[i]'(by omega))) := (hown.cellAt i (by omega)).trans (by simp [List.getElem?_eq_getElem (show i < l.length by omega)])
  have q := (hown.stored i (wd v)).1
  rw [show (l.map wd).set i (wd v) = (l.set i v).map wd by simp [List.map_set]] at q
  have hh := h _ (grown_store w g i (wd v)) q
  have hz : (sizeOf 36).run Try.prog w = .ok 1 w := by kernel_rfl
  unfold Oper.wp execOp
  have hc : (wd v).cells = #[wd v] := rfl
  simp only [ho, hx, hy, Instr.storeAt, Instr.sureAddr, storeVar, hc, Sem.run_bind, Sem.run_pure, Result.andThen_ok, hz, List.size_toArray, List.length_cons, List.length_nil, ne_eq, not_true_eq_false, if_false, store_wd w g i _ c1 (hown.frozenAt i) v, Oper.upon]
  exact hh
theorem WordsAt.at_ {w : World} {g off n cap : Nat} {l : List UInt32} (h : WordsAt w (.slice (some ⟨g, off, none⟩) n cap) l) (j : Nat) (x : UInt32) (hj : l[j]? = some x) : w.cell? ⟨g, off + j, none⟩ = some (wd x) := by
  obtain ⟨b, o, c, e, -, -, hc⟩ := h
  injection e with e1 _ _
  injection e1 with e1
  injection e1 with e1 e2 _
  subst e1 e2
  exact hc j x hj
end Go.Proofs.Ytaobehhekdfkkaa

namespace Go.Proofs.Ytaobehhekdfkkaa
open Go.RowKit

/-- One of these has come up. -/
def AnyDone (st : List Nat) (L : Array Bool) : Prop := ∃ k, k ∈ st ∧ L.getD k false = true
/-- The condition at hand. -/
def HoldG (st : List Nat) (S0 S1 : World → Prop) (L : Array Bool) (w : World) : Prop := S1 w ∧ (S0 w ∨ AnyDone st L)
/-- Whatever has come up came up behind all that it waits for. -/
def ClosedG (md : Region.Mode) (ops : Array Oper) (L : Array Bool) : Prop :=
  ∀ k o, ops[k]? = some o → L.getD k false = true → ∀ e ∈ o.after, Region.binds md e = true → L.getD e.on false = true
def closedGB (md : Region.Mode) (ops : Array Oper) (L : Array Bool) : Bool :=
  (List.range ops.size).all fun k => !L.getD k false || (match ops[k]? with | none => true | some o => o.after.all fun e => !Region.binds md e || L.getD e.on false)
/-- Each of these waits for number i by itself. -/
def waitGB (md : Region.Mode) (ops : Array Oper) (st : List Nat) (i : Nat) : Bool :=
  st.all fun k => match ops[k]? with | none => false | some o => o.after.any fun e => Region.binds md e && e.on == i

theorem closedG_of {md : Region.Mode} {ops : Array Oper} {L : Array Bool} (h : closedGB md ops L = true) : ClosedG md ops L := by
  intro k o hk hL e he hb
  simp only [closedGB, List.all_eq_true, List.mem_range] at h
  have h1 := h k (Array.getElem?_eq_some_iff.1 hk).1
  rw [hL, hk] at h1
  simp only [Bool.not_true, Bool.false_or] at h1
  have h2 := Array.all_eq_true_iff_forall_mem.1 h1 e he
  rw [hb] at h2
  simpa using h2

/-- Whatever order is picked from here on. -/
def wpAnyG (P : Program) (md : Region.Mode) (ops : Array Oper) (Q : Exit → Act → World → Prop) (st : List Nat) (S0 S1 : World → Prop) : Nat → Array Bool → Act → World → Prop
  | 0, L, a, w => Region.ready md ops L = [] ∧ Q .normal a w
  | fuel + 1, L, a, w => (Region.ready md ops L = [] → Q .normal a w) ∧
      ∀ i ∈ Region.ready md ops L, wpOp P ops Q i (fun a' w' => HoldG st S0 S1 (L.setIfInBounds i true) w' ∧ wpAnyG P md ops Q st S0 S1 fuel (L.setIfInBounds i true) a' w') a w

section
variable {P : Program} {md : Region.Mode} {ops : Array Oper} {Q : Exit → Act → World → Prop} {st : List Nat} {S0 S1 : World → Prop}

theorem any_of_G : ∀ (fuel : Nat) (L : Array Bool) (a : Act) (w : World), wpAnyG P md ops Q st S0 S1 fuel L a w → wpAny P md ops Q fuel L a w
  | 0, _, _, _, h => h
  | fuel + 1, _, _, _, h => ⟨h.1, fun i hi => wpOp_mono (fun a' w' h' => any_of_G fuel _ a' w' h'.2) (h.2 i hi)⟩

theorem done_of_set {L : Array Bool} {i : Nat} (hi : i ∉ st) (h : AnyDone st (L.setIfInBounds i true)) : AnyDone st L := by
  obtain ⟨k, hk, h1⟩ := h
  refine ⟨k, hk, ?_⟩
  rw [getD_set_ne false (fun e => hi (by rw [e]; exact hk))] at h1
  exact h1
theorem done_set {L : Array Bool} (i : Nat) (h : AnyDone st L) : AnyDone st (L.setIfInBounds i true) := by
  obtain ⟨k, hk, h1⟩ := h
  exact ⟨k, hk, getD_set_true h1⟩
theorem not_both {L : Array Bool} {i : Nat} (h : L.getD i true = false) : L.getD i false = false := by
  rcases Nat.lt_or_ge i L.size with k | k
  · simp [k] at h ⊢
    exact h
  · simp [Array.getElem?_eq_none k]
theorem closed_set {L : Array Bool} {j : Nat} (hc : ClosedG md ops L) (hj : j ∈ Region.ready md ops L) : ClosedG md ops (L.setIfInBounds j true) := by
  intro k o hk hL e he hb
  by_cases hkj : j = k
  · subst hkj
    obtain ⟨_, o', ho', hall⟩ := mem_ready.1 hj
    rw [hk] at ho'
    cases ho'
    exact getD_set_true (hall e he hb)
  · rw [getD_set_ne false hkj] at hL
    exact getD_set_true (hc k o hk hL e he hb)

/-- Whoever has not come up, and does not wait for number i, lies apart from it. -/
def ApartG (md : Region.Mode) (ops : Array Oper) (i : Nat) (oi : Oper) (L : Array Bool) : Prop :=
  ∀ j oj, ops[j]? = some oj → j ≠ i → L.getD j true = false → (∀ e ∈ oj.after, Region.binds md e = true → e.on ≠ i) → oi.apart ops oj = true
theorem unlisted_set {L : Array Bool} {j k : Nat} (h : (L.setIfInBounds j true).getD k true = false) : L.getD k true = false := by
  by_cases e : j = k
  · subst e
    rcases Nat.lt_or_ge j L.size with q | q
    · simp [q] at h
    · simp at h
  · rwa [getD_set_ne true e] at h
theorem ApartG.set {i : Nat} {oi : Oper} {L : Array Bool} (h : ApartG md ops i oi L) (j : Nat) : ApartG md ops i oi (L.setIfInBounds j true) :=
  fun k ok h1 h2 h3 h4 => h k ok h1 h2 (unlisted_set h3) h4
/-- Who may come up together with number i does not wait for it. -/
theorem no_wait {i j : Nat} {oj : Oper} {L : Array Bool} (hi : i ∈ Region.ready md ops L) (hoj : ops[j]? = some oj) (hj : j ∈ Region.ready md ops L) : ∀ e ∈ oj.after, Region.binds md e = true → e.on ≠ i := by
  obtain ⟨-, o, ho, hall⟩ := mem_ready.1 hj
  rw [hoj] at ho
  cases ho
  intro e he hb h
  have q := hall e he hb
  rw [h, not_both (mem_ready.1 hi).1] at q
  cases q

/-- What number i yields wherever it may still come. -/
abbrev YieldG (P : Program) (md : Region.Mode) (ops : Array Oper) (st : List Nat) (S0 S1 : World → Prop) (i : Nat) (oi : Oper) (v : Value) (a : Act) : Prop :=
  YieldsIf P ops (fun w' => ∃ L', ClosedG md ops L' ∧ L'.getD i true = false ∧ HoldG st S0 S1 L' w') oi v a

theorem anyG_first {i : Nat} {oi : Oper} {v : Value} (hi : ops[i]? = some oi) (hsel : ∀ (j : Nat) (o : Oper) cs b, ops[j]? = some o → o.op ≠ .select cs b)
    (hQ : ∀ c a w, Q (.panic c) (a.put oi.dst v) w → Q (.panic c) a w) (hst : i ∉ st) (fuel : Nat) : ∀ (L : Array Bool) (a : Act) (w : World),
      ApartG md ops i oi L → i ∈ Region.ready md ops L → ClosedG md ops L → YieldG P md ops st S0 S1 i oi v a → HoldG st S0 S1 L w →
      wpAnyG P md ops Q st S0 S1 fuel (L.setIfInBounds i true) (a.put oi.dst v) w → wpAnyG P md ops Q st S0 S1 (fuel + 1) L a w := by
  induction fuel with
  | zero =>
    intro L a w hap hr hc hy hS H
    have only : ∀ j ∈ Region.ready md ops L, j = i := fun j hj => Classical.byContradiction fun e => by
      have q := ready_mono hj e
      rw [H.1] at q
      cases q
    exact ⟨fun h => (by rw [h] at hr; cases hr), fun j hj => by
      cases only j hj
      exact hy.wpOp hi ⟨L, hc, (mem_ready.1 hr).1, hS⟩ ⟨⟨hS.1, hS.2.imp id (done_set _)⟩, H⟩⟩
  | succ fuel ih =>
    intro L a w hap hr hc hy hS H
    refine ⟨fun h => (by rw [h] at hr; cases hr), fun j hj => ?_⟩
    rcases Decidable.em (j = i) with rfl | hji
    · exact hy.wpOp hi ⟨L, hc, (mem_ready.1 hr).1, hS⟩ ⟨⟨hS.1, hS.2.imp id (done_set _)⟩, H⟩
    · obtain ⟨un, oj, hoj, -⟩ := mem_ready.1 hj
      refine wpOp_mono (fun a' w' h3 => ?_) (wpOp_putIf hoj (hap j oj hoj hji un (no_wait hr hoj hj)) (fun cs b => hsel i oi cs b hi) (fun cs b => hsel j oj cs b hoj) hQ hy (H.2 j (ready_mono hj hji)))
      obtain ⟨hy3, hS3, hG3⟩ := h3
      rw [Array.setIfInBounds_comm _ _ (Ne.symm hji)] at hS3 hG3
      have hS4 : HoldG st S0 S1 (L.setIfInBounds j true) w' := ⟨hS3.1, hS3.2.imp id (done_of_set hst)⟩
      exact ⟨hS4, ih (L.setIfInBounds j true) a' w' (hap.set j) (ready_mono hr (Ne.symm hji)) (closed_set hc hj) hy3 hS4 hG3⟩
end

section
variable {P : Program} {md : Region.Mode} {l : List Oper} {Q : Exit → Act → World → Prop} {st : List Nat} {S0 S1 : World → Prop} {fuel : Nat} {L : Array Bool} {a : Act} {w : World} {i : Nat} {o : Oper} {rest : List Oper}

/-- It begins. -/
theorem regG_begin (st : List Nat) (S0 S1 : World → Prop) {id : Nat} (hm : P.follows .mixedOrders = true) (h : wpAnyG P .any l.toArray Q st S0 S1 l.length (Array.replicate l.length false) a w.drew) : (Code.region id l.toArray true).wp P Q a w :=
  wp_region_any hm (by simpa using any_of_G _ _ _ _ h)
/-- An operation that reads no memory, or none that a store changes, is taken first. -/
theorem regG_take {v : Value} (hi : l.drop i = o :: rest) (hs : Region.noSelect l.toArray = true) (hf : Region.free md l.toArray L i = true) (hr : (Region.ready md l.toArray L).contains i = true) (hc : closedGB md l.toArray L = true) (hst : st.contains i = false)
    (hQ : ∀ c a w, Q (.panic c) (a.put o.dst v) w → Q (.panic c) a w) (hw : Region.wanted o (yielded l.toArray a.tmps) = true) (hS : HoldG st S0 S1 L w) (hy : ∀ w', S1 w' → (execOp a.eval o).run P w' = .ok (.value v) w')
    (h : wpAnyG P md l.toArray Q st S0 S1 fuel (L.setIfInBounds i true) (a.put o.dst v) w) : wpAnyG P md l.toArray Q st S0 S1 (fuel + 1) L a w :=
  anyG_first (drop_nth hi) (Region.noSelect_spec hs) hQ (by simpa using hst) fuel L a w (Region.free_spec (drop_nth hi) hf) (by simpa using hr) (closedG_of hc) (Or.inl ⟨hw, fun w' h' => by
    obtain ⟨_, _, _, h1, _⟩ := h'
    exact hy w' h1⟩) hS h
/-- One that reads memory that a store changes: each store waits for it. -/
theorem regG_read {v : Value} (hi : l.drop i = o :: rest) (hs : Region.noSelect l.toArray = true) (hf : Region.free md l.toArray L i = true) (hr : (Region.ready md l.toArray L).contains i = true) (hc : closedGB md l.toArray L = true) (hst : st.contains i = false) (hb : waitGB md l.toArray st i = true)
    (hQ : ∀ c a w, Q (.panic c) (a.put o.dst v) w → Q (.panic c) a w) (hw : Region.wanted o (yielded l.toArray a.tmps) = true) (hS : HoldG st S0 S1 L w) (hy : ∀ w', S0 w' → (execOp a.eval o).run P w' = .ok (.value v) w')
    (h : wpAnyG P md l.toArray Q st S0 S1 fuel (L.setIfInBounds i true) (a.put o.dst v) w) : wpAnyG P md l.toArray Q st S0 S1 (fuel + 1) L a w :=
  anyG_first (drop_nth hi) (Region.noSelect_spec hs) hQ (by simpa using hst) fuel L a w (Region.free_spec (drop_nth hi) hf) (by simpa using hr) (closedG_of hc) (Or.inl ⟨hw, fun w' h' => by
    obtain ⟨L', c', u', _, h0 | ⟨k, hk, hd⟩⟩ := h'
    · exact hy w' h0
    · exfalso
      have q := List.all_eq_true.1 hb k hk
      cases hok : l.toArray[k]? with
      | none => rw [hok] at q; cases q
      | some ok =>
        rw [hok] at q
        simp only [Array.any_eq_true', Bool.and_eq_true, beq_iff_eq] at q
        obtain ⟨e, he, hbe, hon⟩ := q
        have z := c' k ok hok hd e he hbe
        rw [hon, not_both u'] at z
        cases z⟩) hS h
/-- One that alone may come up is carried out. -/
theorem regG_do (hi : l.drop i = o :: rest) (hr : Region.ready md l.toArray L = [i])
    (h : ∀ K' : Act → World → Prop, Shut (∀ a w', S1 w' → (S0 w' ∨ AnyDone st (L.setIfInBounds i true)) → wpAnyG P md l.toArray Q st S0 S1 fuel (L.setIfInBounds i true) a w' → K' a w') → if Region.wanted o (yielded l.toArray a.tmps) = true then Oper.wp P o a w K' Q else K' (a.put o.dst undef) w) :
    wpAnyG P md l.toArray Q st S0 S1 (fuel + 1) L a w := by
  refine ⟨fun e => (by rw [hr] at e; cases e), fun j hj => ?_⟩
  rw [hr] at hj
  obtain rfl : j = i := by simpa using hj
  unfold wpOp
  rw [drop_nth hi]
  have q := h (fun a' w' => HoldG st S0 S1 (L.setIfInBounds j true) w' ∧ wpAnyG P md l.toArray Q st S0 S1 fuel (L.setIfInBounds j true) a' w') (fun a' w' h1 h2 h3 => ⟨⟨h1, h2⟩, h3⟩)
  by_cases hw : Region.wanted o (yielded l.toArray a.tmps) = true
  · simp only [hw, if_true] at q ⊢
    exact .inl q
  · simp only [hw] at q ⊢
    exact q
theorem regG_end {n : Nat} (hr : Region.ready md l.toArray L = []) (h : Q .normal a w) : wpAnyG P md l.toArray Q st S0 S1 n L a w := by
  cases n with
  | zero => exact ⟨hr, h⟩
  | succ n => exact ⟨fun _ => h, fun i hi => by rw [hr] at hi; cases hi⟩
end

/-- One of three that may come up is (XGenS's regions). -/
theorem regS_three {P : Program} {md : Region.Mode} {l : List Oper} {Q : Exit → Act → World → Prop} {S : World → Prop} {fuel : Nat} {listed : Array Bool} {a : Act} {w : World} {i j k : Nat} {o o' o'' : Oper} {rest rest' rest'' : List Oper}
    (hi : l.drop i = o :: rest) (hj : l.drop j = o' :: rest') (hk : l.drop k = o'' :: rest'') (hr : Region.ready md l.toArray listed = [i, j, k])
    (h : ∀ K' : Act → World → Prop, Shut (∀ a w', S w' → wpAnyH P md l.toArray Q S fuel (listed.setIfInBounds i true) a w' → K' a w') → if Region.wanted o (yielded l.toArray a.tmps) = true then Oper.wp P o a w K' Q else K' (a.put o.dst undef) w)
    (h' : ∀ K' : Act → World → Prop, Shut (∀ a w', S w' → wpAnyH P md l.toArray Q S fuel (listed.setIfInBounds j true) a w' → K' a w') → if Region.wanted o' (yielded l.toArray a.tmps) = true then Oper.wp P o' a w K' Q else K' (a.put o'.dst undef) w)
    (h'' : ∀ K' : Act → World → Prop, Shut (∀ a w', S w' → wpAnyH P md l.toArray Q S fuel (listed.setIfInBounds k true) a w' → K' a w') → if Region.wanted o'' (yielded l.toArray a.tmps) = true then Oper.wp P o'' a w K' Q else K' (a.put o''.dst undef) w) :
    wpAnyH P md l.toArray Q S (fuel + 1) listed a w :=
  wpAnyH_ready hr (by simp) (AllReadyH.cons (drop_nth hi) (fun K' hK => h K' (fun a w' hS hn => hK.out a w' hS fun _ => hn))
    (AllReadyH.cons (drop_nth hj) (fun K' hK => h' K' (fun a w' hS hn => hK.out a w' hS fun _ => hn)) (AllReadyH.cons (drop_nth hk) (fun K' hK => h'' K' (fun a w' hS hn => hK.out a w' hS fun _ => hn)) AllReadyH.nil)))
end Go.Proofs.Ytaobehhekdfkkaa
