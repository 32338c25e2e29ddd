/- The statements' own Great. Rows of bytes that a call makes for itself, and bytes stored into them. Rows and arrays of bytes whose block is known whole: made, read, copied into (builtin copy), as bytes of a slice. What changed since a world: new blocks alone, and those that came behind it. -/
import Derived.Test.YtpcdbpijgmninaaDoorGj
import Derived.Test.YtpcdbpijgmninaaDoorGc
import Derived.Test.YtpcdbpijgmninaaDoorGh
import Derived.Laws.CopyRow
import Derived.Laws.IdiomCopy
import Derived.Test.YtpcdbpijgmninaaDoorGa
namespace Go.Proofs.YtpcdbpijgmninaaDoor
set_option maxRecDepth 100000
open Go.RowKit

def greatB (e : Ent) : Bool := decide (1000 < e.name.length) || decide (1000 < e.tag.length)

set_option maxHeartbeats 1000000 in
theorem great_any (a : Ent) (w : World) :
    Calls Tryd.prog 8 #[a.val] w fun e w' => e = .returned (.bool (greatB a)) ∧ Below w.heap.size w w' := by
  obtain ⟨n, i, f, u, x, t⟩ := a
  simp only [Ent.val, Ent.enc]
  obtain ⟨b1, h1⟩ : ∃ b, b = decide (1000 < n.length) := ⟨_, rfl⟩
  obtain ⟨b2, h2⟩ : ∃ b, b = decide (1000 < t.length) := ⟨_, rfl⟩
  have HB : Hid (greatB ⟨n, i, f, u, x, t⟩ = (b1 || b2)) := Lib.hid (by rw [greatB, ← h1, ← h2])
  have r1 : decide ((1000 : Int) < (n.length : Int)) = b1 := by rw [h1]; congr 1; apply propext; omega
  have r2 : decide ((1000 : Int) < (t.length : Int)) = b2 := by rw [h2]; congr 1; apply propext; omega
  have r3 := h1.symm
  have r4 := h2.symm
  clear h1 h2
  cases b1 <;> cases b2
  all_goals
    go_enter Tryd.func8, Tryd.ntmps8
    go_wp2
    go_ret
    exact ⟨by rw [HB.out]; rfl, (Below.refl _ _).alloc (Nat.le_refl _) _⟩
end Go.Proofs.YtpcdbpijgmninaaDoor

namespace Go.Proofs.YtpcdbpijgmninaaDoor
set_option maxRecDepth 100000
open Go.RowKit

theorem store_byte_at (w : World) (g i : Nat) (old : Value) (hc : w.cell? ⟨g, i, none⟩ = some old) (hf : w.frozen? ⟨g, i, none⟩ = false) (c : UInt8) : (storeCells ⟨g, i, none⟩ [.int .u8 (c.toNat : Int)]).run Tryd.prog w = .ok () (w.setCell ⟨g, i, none⟩ (.int .u8 (c.toNat : Int))) := by
  go_simp

section
variable {ops : Array Oper} {rest : List Oper} {o : Oper} {a : Act} {w : World} {Q : Exit → Act → World → Prop}
/-- Zero bytes are made: a row of one's own. -/
theorem wpList_make_row (hgd : o.guard = none) (l c : Operand) (ho : o.op = .makeSlice 42 l c) (n : Nat) (hl : a.eval l = .int .i64 (n : Int)) (hc : a.eval c = .int .i64 (n : Int)) (hn : n ≤ 10000000)
    (h : ∀ w', w'.ownsRow w.heap.size 5 1 (.slice (some ⟨w.heap.size, 0, none⟩) n n) n (bv (List.replicate n 0)) → Below w.heap.size w w' → w.heap.size < w'.heap.size → wpList Tryd.prog ops Q rest (a.put o.dst (.slice (some ⟨w.heap.size, 0, none⟩) n n)) w') : wpList Tryd.prog ops Q (o :: rest) a w := by
  refine wpList_plain hgd fun K hK => ?_
  obtain ⟨i0, hi0, hz0, hz1, hz2⟩ := info_parts byte_info
  obtain ⟨w', hrun, r1, r2⟩ := run_make_full (P := Tryd.prog) w w.heap.size 42 5 i0 (.int .u8 0) 1 Tryd.underlying42 hi0 hz0 hz1 .i64 .i64 n (by rw [hz2]; omega) (by simp only [maxLen]; omega) (Nat.le_refl _)
  have e : (madeCells (Value.int .u8 0).cells (n * 1)).toList = bv (List.replicate n 0) := by rw [Nat.mul_one]; exact made_bytes n
  rw [e] at r1
  have hb : Below w.heap.size w w' := (Below.refl w.heap.size w).grown r2 (Nat.le_refl _) (fun k hk => by cases hk)
  have q := hK _ _ (h w' r1 hb (r1.lt _ rfl).2)
  unfold Oper.wp execOp
  simp [ho, hl, hc, hrun, Result.andThen, Oper.upon]
  exact q
/-- A byte stored into a row of one's own. -/
theorem wpList_put_own (hgd : o.guard = none) (x y : Operand) (ho : o.op = .store 5 x y)
    (base g i n cap : Nat) (hx : a.eval x = .pointer (some ⟨g, i, none⟩)) (c : UInt8) (hy : a.eval y = .int .u8 (c.toNat : Int)) (l : List UInt8) (hl : l.length = n) (hown : w.ownsRow base 5 1 (.slice (some ⟨g, 0, none⟩) n cap) n (bv l)) (hi : i < n)
    (h : ∀ w', w.grownBy w' (some g) → w'.ownsRow base 5 1 (.slice (some ⟨g, 0, none⟩) n cap) n (bv (l.set i c)) → w'.heap.size = w.heap.size → wpList Tryd.prog ops Q rest (a.put o.dst undef) w') : wpList Tryd.prog ops Q (o :: rest) a w := by
  refine wpList_plain hgd fun K hK => ?_
  have c1 : w.cell? ⟨g, i, none⟩ = some (.int .u8 ((l[i]'(by omega)).toNat : Int)) := (hown.cellAt i (by omega)).trans (by simp [bv, List.getElem?_eq_getElem (show i < l.length by omega)])
  have q := (hown.stored i (.int .u8 (c.toNat : Int))).1
  rw [show (bv l).set i (.int .u8 (c.toNat : Int)) = bv (l.set i c) by simp [bv, List.map_set]] at q
  have hh := hK _ _ (h _ (grown_store w g i (.int .u8 (c.toNat : Int))) q (by simp))
  have hz : (sizeOf 5).run Tryd.prog w = .ok 1 w := by kernel_rfl
  unfold Oper.wp execOp
  have hc : (Value.int .u8 (c.toNat : Int)).cells = #[.int .u8 (c.toNat : Int)] := rfl
  simp only [ho, hx, hy, Instr.storeAt, Instr.sureAddr, storeVar, hc, Sem.run_bind, Sem.run_pure, Result.andThen_ok, hz, List.size_toArray, List.length_cons, List.length_nil, ne_eq, not_true_eq_false, if_false, store_byte_at w g i _ c1 (hown.frozenAt i) c, Oper.upon]
  exact hh
end
end Go.Proofs.YtpcdbpijgmninaaDoor

namespace Go.Proofs.YtpcdbpijgmninaaDoor
set_option maxRecDepth 100000
open Go.RowKit

theorem block_bytes {w : World} {g : Nat} {t : TypeId} {l : List UInt8} {n cap : Nat} (h : Whole w g t (bv l).toArray) (hn : n = l.length) (hc : n ≤ cap) : BytesAt w (.slice (some ⟨g, 0, none⟩) n cap) l := by
  subst hn
  refine ⟨_, _, rfl, hc, fun _ => ⟨_, rfl, fun j c hj => ?_⟩⟩
  have ha : (⟨g, 0, none⟩ : Addr).add j = ⟨g, j, none⟩ := by unfold Addr.add; split <;> simp_all
  rw [ha, h.at_ j]
  simp [bv, hj]
theorem block_cell {w : World} {g : Nat} {t : TypeId} {l : List UInt8} (h : Whole w g t (bv l).toArray) (i : Nat) (c : UInt8) (hc : l[i]? = some c) : w.cell? ⟨g, i, none⟩ = some (.int .u8 (c.toNat : Int)) := by
  rw [h.at_ i]
  simp [bv, hc]
theorem block_own {w : World} {base g n : Nat} {xs : List Value} (h : w.ownsRow base 5 1 (.slice (some ⟨g, 0, none⟩) n n) n xs) : Whole w g 5 xs.toArray := by
  rcases h.2 with ⟨h1, -⟩ | ⟨g', cap, cur, h1, -, h3, -, -, h6, h7⟩
  · cases h1
  · injection h1 with h1 _ h2
    injection h1 with h1
    injection h1 with h1
    subst h1 h2
    rw [Whole, h3, ← h7, List.take_of_length_le (by simp; omega)]
/-- The bytes from a place on. -/
theorem BytesAt.rest {w : World} {A : Option Addr} {n cap : Nat} {l : List UInt8} (h : BytesAt w (.slice A n cap) l) (m : Nat) (hm : m ≤ n) : BytesAt w (.slice (if cap = m then A else A.map (·.add m)) (n - m) (cap - m)) (l.drop m) := by
  obtain ⟨hn, hcap⟩ := h.size
  refine ⟨_, cap - m, by rw [List.length_drop, ← hn], by rw [List.length_drop]; omega, fun hne => ?_⟩
  have hl : l ≠ [] := by rintro rfl; simp at hne
  obtain ⟨b, off, rfl, _, hc⟩ := h.spots hl
  have hd : ¬ cap = m := by
    intro e
    apply hne
    apply List.drop_eq_nil_of_le
    omega
  have ha' : (⟨b, off, none⟩ : Addr).add m = ⟨b, off + m, none⟩ := by unfold Addr.add; split <;> simp_all
  rw [if_neg hd, Option.map_some, ha']
  refine ⟨_, rfl, fun j c hj => ?_⟩
  have ha : (⟨b, off + m, none⟩ : Addr).add j = ⟨b, off + (m + j), none⟩ := by unfold Addr.add; split <;> simp_all [Nat.add_assoc]
  rw [ha]
  rw [List.getElem?_drop] at hj
  exact hc _ c hj
theorem grown_same (w : World) (g : Nat) : w.grownBy w (some g) := ⟨rfl, rfl, rfl, Nat.le_refl _, fun _ _ _ => rfl⟩
/-- Bytes copied into a block. -/
theorem run_copy_in (w : World) (ty : TypeId) (g n cap : Nat) (t : TypeId) (L : List UInt8) (src : Value) (l : List UInt8) (hg : Whole w g t (bv L).toArray) (hL : L.length = n) (hs : BytesAt w src l) (m : Nat) (hmn : m = min l.length n) :
    ∃ w', (Builtin.copy_ #[42, 42] ty #[.slice (some ⟨g, 0, none⟩) n cap, src]).run Tryd.prog w = .ok (goInt (m : Int)) w' ∧ Whole w' g t (bv (l.take n ++ L.drop m)).toArray ∧ w.grownBy w' (some g) ∧ w'.heap.size = w.heap.size := by
  have bs : (Tryd.prog.info? 5).map (·.size) = some 1 := by kernel_rfl
  subst hmn
  obtain ⟨A, c, rfl, -, hc⟩ := hs
  by_cases h0 : min l.length n = 0
  · have q := run_copy_none (P := Tryd.prog) w 42 42 ty 5 (some ⟨g, 0, none⟩) A n cap l.length c Tryd.underlying42 bs h0
    have e : l.take n ++ L.drop (min l.length n) = L := by
      rw [h0]
      have : l.take n = [] := by
        apply List.eq_nil_of_length_eq_zero
        rw [List.length_take]
        omega
      rw [this]
      rfl
    refine ⟨w, ?_, by rw [e]; exact hg, grown_same w g, rfl⟩
    rw [h0]
    exact q
  · obtain ⟨ad, rfl, hcell⟩ := hc (by intro e; subst e; simp at h0)
    have hm : (bv (l.take n)).length = Nat.min l.length n := by rw [bv_length, List.length_take, Nat.min_comm]
    have q := run_copy_row (P := Tryd.prog) w 42 42 ty 5 g 0 n cap ad l.length c (bv L).toArray t (bv (l.take n)) Tryd.underlying42 bs hg hm (fun j v hj => by
      simp only [bv, List.getElem?_map, Option.map_eq_some_iff] at hj
      obtain ⟨x, hx, rfl⟩ := hj
      have hjn : j < n := by
        have := (List.getElem?_eq_some_iff.1 hx).1
        rw [List.length_take] at this
        omega
      rw [List.getElem?_take_of_lt hjn] at hx
      exact hcell j x hx) (by simp [bv_length]; omega) (bv_one _)
    rw [hm] at q
    refine ⟨_, q, ?_, grown_setRow w g _, by simp⟩
    have q2 := hg.setRow (cs := ((bv L).toArray.toList.take 0 ++ bv (l.take n) ++ (bv L).toArray.toList.drop (0 + Nat.min l.length n)).toArray)
    have e : bv (l.take n ++ L.drop (min l.length n)) = (bv L).toArray.toList.take 0 ++ bv (l.take n) ++ (bv L).toArray.toList.drop (0 + Nat.min l.length n) := by
      rw [bv_append, List.take_zero, List.nil_append, Nat.zero_add]
      simp only [bv, List.map_drop]
    rw [e]
    exact q2

section
variable {ops : Array Oper} {rest : List Oper} {o : Oper} {a : Act} {w : World} {Q : Exit → Act → World → Prop}
/-- Zero bytes are made: a block of one's own. -/
theorem wpList_make_block (hgd : o.guard = none) (l c : Operand) (ho : o.op = .makeSlice 42 l c) (n : Nat) (hl : a.eval l = .int .i64 (n : Int)) (hc : a.eval c = .int .i64 (n : Int)) (hn : n ≤ 10000000)
    (h : ∀ w', Whole w' w.heap.size 5 (bv (List.replicate n 0)).toArray → Below w.heap.size w w' → w.heap.size < w'.heap.size → wpList Tryd.prog ops Q rest (a.put o.dst (.slice (some ⟨w.heap.size, 0, none⟩) n n)) w') : wpList Tryd.prog ops Q (o :: rest) a w :=
  wpList_make_row hgd l c ho n hl hc hn fun w' h1 h2 h3 => h w' (block_own h1) h2 h3
/-- A byte stored into a place of a row that is known. -/
theorem wpList_put_at (hgd : o.guard = none) (x y : Operand) (ho : o.op = .store 5 x y)
    (g i : Nat) (hx : a.eval x = .pointer (some ⟨g, i, none⟩)) (c : UInt8) (hy : a.eval y = .int .u8 (c.toNat : Int)) (t : TypeId) (cs : Array Value) (hg : Whole w g t cs) (old : Value) (hi : cs[i]? = some old)
    (h : ∀ w', w.grownBy w' (some g) → Whole w' g t (cs.setIfInBounds i (.int .u8 (c.toNat : Int))) → w'.heap.size = w.heap.size → wpList Tryd.prog ops Q rest (a.put o.dst undef) w') : wpList Tryd.prog ops Q (o :: rest) a w := by
  refine wpList_plain hgd fun K hK => ?_
  have c1 : w.cell? ⟨g, i, none⟩ = some old := (hg.at_ i).trans hi
  have hh := hK _ _ (h _ (grown_store w g i (.int .u8 (c.toNat : Int))) (hg.stored i _) (by simp))
  have hz : (sizeOf 5).run Tryd.prog w = .ok 1 w := by kernel_rfl
  unfold Oper.wp execOp
  have hc : (Value.int .u8 (c.toNat : Int)).cells = #[.int .u8 (c.toNat : Int)] := rfl
  simp only [ho, hx, hy, Instr.storeAt, Instr.sureAddr, storeVar, hc, Sem.run_bind, Sem.run_pure, Result.andThen_ok, hz, List.size_toArray, List.length_cons, List.length_nil, ne_eq, not_true_eq_false, if_false, store_byte_at w g i _ c1 (hg.free i) c, Oper.upon]
  exact hh
end
/-- Bytes of a known row, one of them changed. -/
theorem bytes_changed {w : World} {g off cap j : Nat} {t : TypeId} {cs : Array Value} {T : List UInt8} {d : UInt8} (hw : Whole w g t (cs.setIfInBounds (off + j) (.int .u8 (d.toNat : Int)))) (hcell : ∀ i c, T[i]? = some c → cs[off + i]? = some (.int .u8 (c.toNat : Int))) (hj : j < T.length) (hc : T.length ≤ cap) :
    BytesAt w (.slice (some ⟨g, off, none⟩) T.length cap) (T.set j d) := by
  have hlen : (T.set j d).length = T.length := by rw [List.length_set]
  refine ⟨_, cap, by rw [hlen], by rw [hlen]; exact hc, fun _ => ⟨_, rfl, fun i x hd => ?_⟩⟩
  have ha : (⟨g, off, none⟩ : Addr).add i = ⟨g, off + i, none⟩ := by unfold Addr.add; split <;> simp_all
  rw [ha, hw.at_]
  rw [List.getElem?_set] at hd
  by_cases e : j = i
  · subst e
    simp only [if_true, hj] at hd
    injection hd with hd
    subst hd
    have hsz : off + j < cs.size := (Array.getElem?_eq_some_iff.1 (hcell j _ (List.getElem?_eq_getElem hj))).1
    simp [hsz]
  · rw [if_neg e] at hd
    rw [Array.getElem?_setIfInBounds_ne (by omega)]
    exact hcell i x hd
end Go.Proofs.YtpcdbpijgmninaaDoor

namespace Go.Proofs.YtpcdbpijgmninaaDoor
set_option maxRecDepth 100000
open Go.RowKit

/-- What changed since a world: blocks that came later alone. -/
structure Since (w0 w : World) : Prop where
  b : Below w0.heap.size w0 w
theorem Since.below {w0 w w' : World} (h : Since w0 w) (b : Below w.heap.size w w') : Since w0 w' := ⟨h.b.trans (b.mono h.b.size)⟩
theorem Since.far {w0 w w' : World} {g : Nat} (h : Since w0 w) (q : w.grownBy w' (some g)) (hg : w0.heap.size ≤ g) : Since w0 w' := ⟨h.b.grown q h.b.size (fun k hk => by injection hk with hk; omega)⟩
end Go.Proofs.YtpcdbpijgmninaaDoor
