/- Tables out of what a card lists of package-level variables: powers of ten, digest's constants. What layer 18's cards list of package-level variables: the door's own heap meets it; the two tables out of it. -/
import Derived.Test.YtmnhpkdldeifgaaGreatDoorGbb
import Derived.Test.YtmnhpkdldeifgaaGreatDoorGx
import Derived.Test.YtmnhpkdldeifgaaGreatDoorTie
import Derived.Test.YtmnhpkdldeifgaaGreatDoorCards
import Derived.Lib.LaidTab
import Derived.LaidMore
import Derived.Stop.Joined
import Derived.Stop.LaidErr
import Derived.SevenTiedAt
namespace Go.Proofs.YtmnhpkdldeifgaaGreatDoor
set_option maxRecDepth 100000
open Go.RowKit Go.ChangeShapes Go.WideShapes Go.ChangeAt

theorem tPow : (Tryz.prog.globals[0]?).map (·.type) = some 132 := by kernel_rfl
theorem pow_is : Rows.laid_internal_strconv_uint64pow10 (H := Unit) = Lib.tabData .u64 Lib.pow10Tab := by kernel_rfl
theorem pow_of_met {W : World} {r : List (String × DataW Unit)} (h : laidMet Tryz.prog (("internal/strconv.uint64pow10", Rows.laid_internal_strconv_uint64pow10) :: r) W) : PowT W := by
  rw [pow_is] at h
  exact Lib.tabIs_of_head gPow tPow Tryz.underlying132 Tryz.underlying22 (by kernel_rfl) (by kernel_rfl) h
theorem gC : Tryz.prog.globalNamed "carcanet/digest.constants" = some 3 := by kernel_rfl
theorem tC : (Tryz.prog.globals[3]?).map (·.type) = some 141 := by kernel_rfl
def ktI : List Int := kt.map fun x => (x.toNat : Int)
theorem ktI_length : ktI.length = 64 := by kernel_rfl
theorem const_is : Rows.laid_carcanet_digest_constants (H := Unit) = Lib.tabData .u32 ktI := by kernel_rfl
theorem tab_of_met {W : World} {r : List (String × DataW Unit)} (h : laidMet Tryz.prog (("carcanet/digest.constants", Rows.laid_carcanet_digest_constants) :: r) W) : Tab W := by
  rw [const_is] at h
  have q := Lib.tabIs_of_head gC tC Tryz.underlying141 Tryz.underlying57 (by kernel_rfl) (by kernel_rfl) h
  intro k hk
  have hk64 : kt.length = 64 := by kernel_rfl
  have hl : k < kt.length := by omega
  have c := q.cell gC k (by rw [ktI_length]; exact hk)
  rw [c]
  simp [ktI, wd, List.getD, List.getElem?_eq_getElem hl]
end Go.Proofs.YtmnhpkdldeifgaaGreatDoor

namespace Go.Proofs.YtmnhpkdldeifgaaGreatDoor
set_option maxRecDepth 100000
open Go.RowKit Go.ChangeShapes Go.WideShapes Go.ChangeAt

def laidP : List (String × DataW Unit) := [("math/bits.deBruijn32tab", Rows.laid_math_bits_deBruijn32tab), ("math/bits.deBruijn64tab", Rows.laid_math_bits_deBruijn64tab), ("internal/strconv.uint64pow10", Rows.laid_internal_strconv_uint64pow10), ("carcanet/digest.constants", Rows.laid_carcanet_digest_constants)]
theorem door_metP (os : Os) (args : Array Value) : laidMetH Tryz.prog laidP ((World.doorLaid Tryz.prog 400 os).forCall (fun _ _ => 0) ⟨#[], args, []⟩).memory :=
  laidMetH_of_parts3 (fuel := 8) (laidMet_of_run' 8 (by kernel_rfl) (by kernel_rfl)) (by kernel_rfl) (by kernel_rfl)
theorem powP {W : World} (h : laidMetH Tryz.prog laidP W) : PowT W ∧ Tab W := by
  rw [MakeChecks.laidMetH_plain _ _ _ (by kernel_rfl)] at h
  exact ⟨pow_of_met h.tail.tail, tab_of_met h.tail.tail.tail⟩
end Go.Proofs.YtmnhpkdldeifgaaGreatDoor
