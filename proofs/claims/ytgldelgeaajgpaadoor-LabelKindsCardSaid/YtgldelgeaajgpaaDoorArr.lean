/- Arrays by value: words and bytes stored into their places; shifts by numbers of type int. -/
import Derived.Test.YtgldelgeaajgpaaDoorGenS
import Derived.Test.YtgldelgeaajgpaaDoorWd
namespace Go.Proofs.YtgldelgeaajgpaaDoor
open Go.RowKit

theorem run_shl_i (k : Nat) (hk : k < 32) (t : TypeId) (x : UInt32) (w : World) : (binOp .shl t (wd x) (.int .i64 (k : Int))).run Tryd.prog w = .ok (wd (x <<< UInt32.ofNat k)) w := by
  have e : binOp .shl t (wd x) (.int .i64 (k : Int)) = binOp .shl t (wd x) (.int .u64 (k : Int)) := by simp [wd, binOp]
  rw [e, wd_shl t x k hk]
  rfl
theorem run_shr_i (k : Nat) (hk : k < 32) (t : TypeId) (x : UInt32) (w : World) : (binOp .shr t (wd x) (.int .i64 (k : Int))).run Tryd.prog w = .ok (wd (x >>> UInt32.ofNat k)) w := by
  have e : binOp .shr t (wd x) (.int .i64 (k : Int)) = binOp .shr t (wd x) (.int .u64 (k : Int)) := by simp [wd, binOp]
  rw [e, wd_shr t x k hk]
  rfl
theorem ba_size (l : List UInt8) : (bv l).toArray.size = l.length := by simp [bv]
theorem ba_at (l : List UInt8) (i : Nat) (c : UInt8) (h : l[i]? = some c) : (bv l).toArray[i]? = some (.int .u8 (c.toNat : Int)) := by simp [bv, h]
theorem ba_set (l : List UInt8) (i : Nat) (c : UInt8) : (bv l).toArray.setIfInBounds i (.int .u8 (c.toNat : Int)) = (bv (l.set i c)).toArray := by simp [bv, List.map_set]
theorem ba_one (l : List UInt8) : (bv l).toArray.all (·.oneCell') = true := by
  simp only [List.all_toArray, List.all_eq_true]
  exact fun u hu => bv_one l u hu
theorem store_bt (w : World) (g i : Nat) (old : Value) (hc : w.cell? ⟨g, i, none⟩ = some old) (hf : w.frozen? ⟨g, i, none⟩ = false) (c : UInt8) : (storeCells ⟨g, i, none⟩ [.int .u8 (c.toNat : Int)]).run Tryd.prog w = .ok () (w.setCell ⟨g, i, none⟩ (.int .u8 (c.toNat : Int))) := by
  go_simp

section
variable {ops : Array Oper} {rest : List Oper} {o : Oper} {a : Act} {w : World} {Q : Exit → Act → World → Prop}
/-- A word stored into an array's place. -/
theorem wpList_put_w (hgd : o.guard = none) (x y : Operand) (ho : o.op = .store 50 x y)
    (g i : Nat) (hx : a.eval x = .pointer (some ⟨g, i, none⟩)) (v : UInt32) (hy : a.eval y = wd v) (t : TypeId) (l : List UInt32) (hg : Whole w g t (wv l)) (hi : i < l.length)
    (h : ∀ w', w.grownBy w' (some g) → Whole w' g t (wv (l.set i v)) → w'.heap.size = w.heap.size → wpList Tryd.prog ops Q rest (a.put o.dst undef) w') : wpList Tryd.prog ops Q (o :: rest) a w := by
  refine wpList_plain hgd fun K hK => ?_
  have c1 : w.cell? ⟨g, i, none⟩ = some (wd l[i]) := (hg.at_ i).trans (wv_at _ _ _ (List.getElem?_eq_getElem hi))
  have q := hg.stored i (wd v)
  rw [wv_set] at q
  have hh := hK _ _ (h _ (grown_store w g i (wd v)) q (by simp))
  have hz : (sizeOf 50).run Tryd.prog w = .ok 1 w := by kernel_rfl
  unfold Oper.wp execOp
  have hc : (wd v).cells = #[wd v] := rfl
  simp only [ho, hx, hy, Instr.storeAt, Instr.sureAddr, storeVar, hc, Sem.run_bind, Sem.run_pure, Result.andThen_ok, hz, List.size_toArray, List.length_cons, List.length_nil, ne_eq, not_true_eq_false, if_false, store_wd w g i _ c1 (hg.free i) v, Oper.upon]
  exact hh
/-- A byte stored into an array's place. -/
theorem wpList_put_b (hgd : o.guard = none) (x y : Operand) (ho : o.op = .store 5 x y)
    (g i : Nat) (hx : a.eval x = .pointer (some ⟨g, i, none⟩)) (c : UInt8) (hy : a.eval y = .int .u8 (c.toNat : Int)) (t : TypeId) (l : List UInt8) (hg : Whole w g t (bv l).toArray) (hi : i < l.length)
    (h : ∀ w', w.grownBy w' (some g) → Whole w' g t (bv (l.set i c)).toArray → w'.heap.size = w.heap.size → wpList Tryd.prog ops Q rest (a.put o.dst undef) w') : wpList Tryd.prog ops Q (o :: rest) a w := by
  refine wpList_plain hgd fun K hK => ?_
  have c1 : w.cell? ⟨g, i, none⟩ = some (.int .u8 (l[i].toNat : Int)) := (hg.at_ i).trans (ba_at _ _ _ (List.getElem?_eq_getElem hi))
  have q := hg.stored i (.int .u8 (c.toNat : Int))
  rw [ba_set] at q
  have hh := hK _ _ (h _ (grown_store w g i (.int .u8 (c.toNat : Int))) q (by simp))
  have hz : (sizeOf 5).run Tryd.prog w = .ok 1 w := by kernel_rfl
  unfold Oper.wp execOp
  have hc : (Value.int .u8 (c.toNat : Int)).cells = #[.int .u8 (c.toNat : Int)] := rfl
  simp only [ho, hx, hy, Instr.storeAt, Instr.sureAddr, storeVar, hc, Sem.run_bind, Sem.run_pure, Result.andThen_ok, hz, List.size_toArray, List.length_cons, List.length_nil, ne_eq, not_true_eq_false, if_false, store_bt w g i _ c1 (hg.free i) c, Oper.upon]
  exact hh
end
end Go.Proofs.YtgldelgeaajgpaaDoor
