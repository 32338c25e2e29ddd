/- Package gate as landed answers as the texts of layer 15's statements ask it to. The table of constants out of the row's condition; what each card of layer 3 has in common. -/
import Derived.Test.YtehalcopkjfdkaaDoorGbh
import Derived.Test.YtehalcopkjfdkaaDoorGk
import Derived.Test.YtehalcopkjfdkaaDoorTie
import Derived.Test.YtehalcopkjfdkaaDoorCards
import Derived.Lib.LaidTab
import Derived.LaidMore
import Derived.Stop.Joined
import Derived.SevenTiedAt
namespace Go.Proofs.YtehalcopkjfdkaaDoor
set_option maxRecDepth 100000
open Go.RowKit

theorem gate_is : GateIs where
  take := fun g a now w _ hk _ hn ht T => gaTake_any g a now hk hn ht w T
  raise := fun g y w hg hy _ _ T => gaRaise_any g y hy.index_ok.2 hg.index_ok.1 hg.index_ok.2 w T
  holds := fun p w _ _ _ _ => gaHolds_any p w
  those := fun g A m cap l now w _ hk hl hm h T => gaThose_any g A m cap l now hk (fun e he => (hl e he).2) hm w h T
end Go.Proofs.YtehalcopkjfdkaaDoor

namespace Go.Proofs.YtehalcopkjfdkaaDoor
set_option maxRecDepth 100000
open Go.RowKit Go.ChangeShapes Go.WideShapes Go.ChangeAt

def laidC : List (String × DataW Unit) := [("carcanet/digest.constants", Rows.laid_carcanet_digest_constants)]
theorem gC : Tryd.prog.globalNamed "carcanet/digest.constants" = some 0 := by kernel_rfl
theorem tC : (Tryd.prog.globals[0]?).map (·.type) = some 99 := by kernel_rfl
def ktI : List Int := kt.map fun x => (x.toNat : Int)
theorem ktI_length : ktI.length = 64 := by kernel_rfl
theorem laid_tab : laidC = ("carcanet/digest.constants", Lib.tabData .u32 ktI) :: [] := by kernel_rfl

/-- The door's own heap meets the condition. -/
theorem door_met (os : Os) (args : Array Value) : laidMetH Tryd.prog laidC ((World.doorLaid Tryd.prog 400 os).forCall (fun _ _ => 0) ⟨#[], args, []⟩).memory :=
  laidMetH_of_parts3 (fuel := 8) (laidMet_of_run' 8 (by kernel_rfl) (by kernel_rfl)) (by kernel_rfl) (by kernel_rfl)

theorem tab_of_laid {W : World} (h : laidMetH Tryd.prog laidC W) : Tab W := by
  rw [MakeChecks.laidMetH_plain _ _ _ (by kernel_rfl), laid_tab] at h
  have q := Lib.tabIs_of_head gC tC Tryd.underlying99 Tryd.underlying85 (by kernel_rfl) (by kernel_rfl) h
  intro k hk
  have hk64 : kt.length = 64 := by kernel_rfl
  have hl : k < kt.length := by omega
  have c := q.cell gC k (by rw [ktI_length]; exact hk)
  rw [c]
  simp [ktI, wd, List.getD, List.getElem?_eq_getElem hl]
end Go.Proofs.YtehalcopkjfdkaaDoor
