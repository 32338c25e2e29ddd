/- Gates as values, and in memory. -/
import Derived.Test.YthhhldnlmkoamaaDoorGenS
import Derived.Test.YthhhldnlmkoamaaDoorGenT
import Derived.StillTailTactics
namespace Go.Proofs.YthhhldnlmkoamaaDoor
open Go.RowKit

/-- A gate. -/
def gateV (i : Int) (k : List UInt8) : Value := .agg #[.int .i64 i, .string ⟨k.toArray⟩]

def gateC (i : Int) (k : List UInt8) : Array Value := #[.int .i64 i, .string ⟨k.toArray⟩]
/-- A gate in a block. -/
def GateAt (w : World) (g : Nat) (i : Int) (k : List UInt8) : Prop := Whole w g 33 (gateC i k)
theorem GateAt.two {w : World} {g : Nat} {i : Int} {k : List UInt8} (h : GateAt w g i k) : w.cell? ⟨g, 0, none⟩ = some (.int .i64 i) ∧ w.cell? ⟨g, 1, none⟩ = some (.string ⟨k.toArray⟩) := ⟨h.at_ 0, h.at_ 1⟩

theorem gate_size (i : Int) (k : List UInt8) : (Tryd.prog.info? 33).map (·.size) = some (gateC i k).size := by
  have h : (Tryd.prog.info? 33).map (·.size) = some 2 := by kernel_rfl
  exact h
theorem gate_one (i : Int) (k : List UInt8) : (gateC i k).all (·.oneCell') = true := by simp [gateC, Value.oneCell']
theorem gate_zero : (Tryd.prog.info? 33).map (·.zero) = some (some (.agg (gateC 0 []))) := by kernel_rfl
theorem load_gate {w : World} {g : Nat} {i : Int} {k : List UInt8} (h : GateAt w g i k) : (loadVar 33 ⟨g, 0, none⟩).run Tryd.prog w = .ok (gateV i k) w := by
  obtain ⟨c0, c1⟩ := h.two
  simp only [gateV]
  go_simp
theorem exec_load_gate {ev : Operand → Value} {o : Oper} (x : Operand) (ho : o.op = .load 33 x) (g : Nat) (hx : ev x = .pointer (some ⟨g, 0, none⟩)) (i : Int) (k : List UInt8) (w : World) (hg : GateAt w g i k) :
    (execOp ev o).run Tryd.prog w = .ok (.value (gateV i k)) w := by
  have h := load_gate hg
  unfold execOp
  simp [ho, hx, Instr.loadAt, Instr.sureAddr, h]

end Go.Proofs.YthhhldnlmkoamaaDoor
