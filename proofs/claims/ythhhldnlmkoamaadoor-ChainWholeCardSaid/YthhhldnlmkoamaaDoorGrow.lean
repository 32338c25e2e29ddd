/- What the library's Grow (of nothing) answers. -/
import Derived.Test.YthhhldnlmkoamaaDoorGenS
import Derived.Test.YthhhldnlmkoamaaDoorGenT
import Derived.Lib.AppendZerosOnto
import Derived.Deep.DeepCutAuto
import Derived.Deep.LoopGhost
namespace Go.Proofs.YthhhldnlmkoamaaDoor
open Go.RowKit

theorem run_append_zeros (w : World) (ty : TypeId) (k : Nat) (h0 : 0 < k) (hk : k ≤ 10000000) :
    ∃ cap w', (Builtin.append_ #[36, 3] ty #[.slice none 0 0, .int .i64 (k : Int)]).run Tryd.prog w = .ok (.slice (some ⟨w.heap.size, 0, none⟩) k cap) w' ∧ k ≤ cap ∧
      w'.ownsRow w.heap.size 5 1 (.slice (some ⟨w.heap.size, 0, none⟩) 0 cap) 0 [] ∧ Below w.heap.size w w' := by
  obtain ⟨i0, hi0, hz0, hz1, hz2⟩ := info_parts byte_info
  have q := Lib.run_append_grow_zeros (P := Tryd.prog) w 36 3 ty 5 i0 (.int .u8 0) .i64 .i64 Tryd.underlying36 Tryd.underlying3 hi0 hz0 none 0 0 []
    (by simp [Builtin.firstCells]) k h0 (by omega) (by omega) (by omega) (by rw [hz2]; omega) (by rw [hz2]; simp only [Builtin.nextslicecap]; split <;> omega)
  rw [Nat.zero_add] at q
  refine ⟨_, _, q, grownCap_ge _ _ _ _, World.ownsRow_made w.drew _ _ (Nat.le_refl _) (grownCap_le_maxLen _ _ _ _ (by simp only [maxLen]; omega)) ?_, (Below.refl _ _).drew.alloc (Nat.le_refl _) _⟩
  have := grownCap_ge w k 0 5
  simp [size_zeroCells, Value.cells]
  omega

theorem wpList_append_zeros {w : World} {ops : Array Oper} {rest : List Oper} {o : Oper} {a : Act} {Q : Exit → Act → World → Prop} (hgd : o.guard = none) (s x : Operand)
    (ho : o.op = .call { callee := .builtin .append, args := #[s, x], argTypes := #[36, 3] }) (k : Nat) (hs : a.eval s = .slice none 0 0) (hx : a.eval x = .int .i64 (k : Int)) (h0 : 0 < k) (hk : k ≤ 10000000)
    (h : ∀ cap w', k ≤ cap → w'.ownsRow w.heap.size 5 1 (.slice (some ⟨w.heap.size, 0, none⟩) 0 cap) 0 [] → Below w.heap.size w w' → wpList Tryd.prog ops Q rest (a.put o.dst (.slice (some ⟨w.heap.size, 0, none⟩) k cap)) w') : wpList Tryd.prog ops Q (o :: rest) a w := by
  refine wpList_plain hgd fun K hK => ?_
  obtain ⟨cap, w', hr, h1, h2, h3⟩ := run_append_zeros w o.type k h0 hk
  have q := hK _ _ (h cap w' h1 h2 h3)
  unfold Oper.wp execOp
  simp only [ho, resolve, invoke, builtin, Sem.run_bind, Sem.run_pure, Result.andThen_ok, List.map_toArray, List.map_cons, List.map_nil, hs, hx, hr]
  exact q

set_option maxHeartbeats 1000000 in
theorem grow_any (n : Nat) (hn : n ≤ 10000000) (w : World) :
    Calls Tryd.prog 31 #[.slice none 0 0, .int .i64 (n : Int)] w fun e w' => ∃ v, e = .returned v ∧ w'.ownsRow w.heap.size 5 1 v 0 [] ∧ Below w.heap.size w w' := by
  by_cases h0 : n = 0
  · subst h0
    go_enter Tryd.func31, Tryd.ntmps31
    go_wp2
    go_ret
    exact ⟨_, rfl, World.ownsRow_nil _ _ _ _, Below.refl _ _⟩
  · have hp : 0 < n := by omega
    have d0 : decide ((n : Int) < 0) = false := by simp
    have d1 : decide ((0 : Int) < (n : Int)) = true := by simp; omega
    go_enter Tryd.func31, Tryd.ntmps31
    go_wp2_with (with_reducible refine wpList_append_zeros rfl _ _ rfl n ?hs ?hx hp hn ?_)
    case hs => exact rfl
    case hx => exact rfl
    intro cap w1 hc ho hb
    have HO := Lib.hid ho
    have hcp : cap ≠ 0 := by omega
    clear ho
    go_wp2
    go_ret
    exact ⟨_, rfl, HO.out, hb⟩

end Go.Proofs.YthhhldnlmkoamaaDoor
