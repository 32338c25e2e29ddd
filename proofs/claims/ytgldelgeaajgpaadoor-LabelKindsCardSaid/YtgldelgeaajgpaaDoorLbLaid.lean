/- What layer 10's cards list of package-level variables: the door's own heap meets it; the tables and the errors out of it. -/
import Derived.Test.YtgldelgeaajgpaaDoorLbC
import Derived.Test.YtgldelgeaajgpaaDoorDgB
import Derived.Test.YtgldelgeaajgpaaDoorTie
import Derived.Test.YtgldelgeaajgpaaDoorCards
import Derived.Lib.LaidTab
import Derived.LaidMore
import Derived.Stop.Joined
import Derived.Stop.LaidErr
import Derived.SevenTiedAt
namespace Go.Proofs.YtgldelgeaajgpaaDoor
open Go.RowKit Go.ChangeShapes Go.WideShapes Go.ChangeAt

def laid0 : List (String × DataW Unit) := [("math/bits.deBruijn32tab", Rows.laid_math_bits_deBruijn32tab), ("math/bits.deBruijn64tab", Rows.laid_math_bits_deBruijn64tab), ("internal/strconv.uint64pow10", Rows.laid_internal_strconv_uint64pow10)]
def laidE : List (String × DataW Unit) := [("strconv.ErrRange", Rows.laid_strconv_ErrRange), ("strconv.ErrSyntax", Rows.laid_strconv_ErrSyntax)]
def laidD : List (String × DataW Unit) := [("carcanet/digest.constants", Rows.laid_carcanet_digest_constants)]
def laidW : List (String × DataW Unit) := laid0
def laidK : List (String × DataW Unit) := [("math/bits.deBruijn32tab", Rows.laid_math_bits_deBruijn32tab), ("math/bits.deBruijn64tab", Rows.laid_math_bits_deBruijn64tab), ("internal/strconv.uint64pow10", Rows.laid_internal_strconv_uint64pow10), ("carcanet/digest.constants", Rows.laid_carcanet_digest_constants)]
def laidR : List (String × DataW Unit) := [("math/bits.deBruijn32tab", Rows.laid_math_bits_deBruijn32tab), ("math/bits.deBruijn64tab", Rows.laid_math_bits_deBruijn64tab), ("internal/strconv.uint64pow10", Rows.laid_internal_strconv_uint64pow10), ("strconv.ErrRange", Rows.laid_strconv_ErrRange), ("strconv.ErrSyntax", Rows.laid_strconv_ErrSyntax)]

/-- The door's own heap meets the conditions. -/
theorem door_metW (os : Os) (args : Array Value) : laidMetH Tryd.prog laidW ((World.doorLaid Tryd.prog 400 os).forCall (fun _ _ => 0) ⟨#[], args, []⟩).memory :=
  laidMetH_of_parts3 (fuel := 8) (laidMet_of_run' 8 (by kernel_rfl) (by kernel_rfl)) (by kernel_rfl) (by kernel_rfl)
theorem door_metK (os : Os) (args : Array Value) : laidMetH Tryd.prog laidK ((World.doorLaid Tryd.prog 400 os).forCall (fun _ _ => 0) ⟨#[], args, []⟩).memory :=
  laidMetH_of_parts3 (fuel := 8) (laidMet_of_run' 8 (by kernel_rfl) (by kernel_rfl)) (by kernel_rfl) (by kernel_rfl)
theorem door_metR (os : Os) (args : Array Value) : laidMetH Tryd.prog laidR ((World.doorLaid Tryd.prog 400 os).forCall (fun _ _ => 0) ⟨#[], args, []⟩).memory :=
  laidMetH_of_parts3 (fuel := 8) (laidMet_of_run' 8 (by kernel_rfl) (by kernel_rfl)) (by kernel_rfl) (by kernel_rfl)

theorem tPow : (Tryd.prog.globals[3]?).map (·.type) = some 90 := by kernel_rfl
theorem pow_is : Rows.laid_internal_strconv_uint64pow10 (H := Unit) = Lib.tabData .u64 Lib.pow10Tab := by kernel_rfl
theorem pow_of_met {W : World} {r : List (String × DataW Unit)} (h : laidMet Tryd.prog (("internal/strconv.uint64pow10", Rows.laid_internal_strconv_uint64pow10) :: r) W) : PowT W := by
  rw [pow_is] at h
  exact Lib.tabIs_of_head gPow tPow Tryd.underlying90 Tryd.underlying24 (by kernel_rfl) (by kernel_rfl) h
theorem gC : Tryd.prog.globalNamed "carcanet/digest.constants" = some 2 := by kernel_rfl
theorem tC : (Tryd.prog.globals[2]?).map (·.type) = some 85 := by kernel_rfl
def ktI : List Int := kt.map fun x => (x.toNat : Int)
theorem ktI_length : ktI.length = 64 := by kernel_rfl
theorem const_is : Rows.laid_carcanet_digest_constants (H := Unit) = Lib.tabData .u32 ktI := by kernel_rfl
theorem tab_of_met {W : World} {r : List (String × DataW Unit)} (h : laidMet Tryd.prog (("carcanet/digest.constants", Rows.laid_carcanet_digest_constants) :: r) W) : Tab W := by
  rw [const_is] at h
  have q := Lib.tabIs_of_head gC tC Tryd.underlying85 Tryd.underlying50 (by kernel_rfl) (by kernel_rfl) h
  intro k hk
  have hk64 : kt.length = 64 := by kernel_rfl
  have hl : k < kt.length := by omega
  have c := q.cell gC k (by rw [ktI_length]; exact hk)
  rw [c]
  simp [ktI, wd, List.getD, List.getElem?_eq_getElem hl]

theorem gES : Tryd.prog.globalNamed "strconv.ErrSyntax" = some 0 := by kernel_rfl
theorem gER : Tryd.prog.globalNamed "strconv.ErrRange" = some 1 := by kernel_rfl
theorem tES : (Tryd.prog.globals[0]?).map (·.type) = some 46 := by kernel_rfl
theorem tER : (Tryd.prog.globals[1]?).map (·.type) = some 46 := by kernel_rfl
theorem star_es : "*" ++ "errors.errorString" = "*errors.errorString" := by decide
theorem row_es (u : TypeId) (h : Tryd.prog.typeName? 3 u = some "*errors.errorString") : u = 96 :=
  typeName_ptr_named (nm := "errors.errorString") (by rw [star_es]; kernel_rfl) (by kernel_rfl) (by decide) u (by rw [star_es]; exact h)
theorem err_of_met {W : World} {r : List (String × DataW Unit)} (h : laidMet Tryd.prog (("strconv.ErrRange", Rows.laid_strconv_ErrRange) :: ("strconv.ErrSyntax", Rows.laid_strconv_ErrSyntax) :: r) W) : ErrT W := by
  obtain ⟨a0, s0, hv0, -, -, -⟩ := laid_sentinel h gER tER Tryd.underlying46 row_es Tryd.underlying96 Tryd.underlying98 rfl rfl Tryd.underlying9 (by kernel_rfl) (by kernel_rfl)
  obtain ⟨a1, s1, hv1, -, -, -⟩ := laid_sentinel h.tail gES tES Tryd.underlying46 row_es Tryd.underlying96 Tryd.underlying98 rfl rfl Tryd.underlying9 (by kernel_rfl) (by kernel_rfl)
  exact ⟨⟨_, by have h0 := World.var?_cell gES hv1 0; simpa using h0, Or.inr ⟨_, _, rfl⟩⟩, _, by have h0 := World.var?_cell gER hv0 0; simpa using h0, Or.inr ⟨_, _, rfl⟩⟩

theorem powW {W : World} (h : laidMetH Tryd.prog laidW W) : PowT W := by
  rw [MakeChecks.laidMetH_plain _ _ _ (by kernel_rfl)] at h
  exact pow_of_met h.tail.tail
theorem powK {W : World} (h : laidMetH Tryd.prog laidK W) : PowT W ∧ Tab W := by
  rw [MakeChecks.laidMetH_plain _ _ _ (by kernel_rfl)] at h
  exact ⟨pow_of_met h.tail.tail, tab_of_met h.tail.tail.tail⟩
theorem powR {W : World} (h : laidMetH Tryd.prog laidR W) : PowT W ∧ ErrT W := by
  rw [MakeChecks.laidMetH_plain _ _ _ (by kernel_rfl)] at h
  exact ⟨pow_of_met h.tail.tail, err_of_met h.tail.tail.tail⟩
end Go.Proofs.YtgldelgeaajgpaaDoor
