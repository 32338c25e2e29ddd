/- What the texts of layer 11's statements lean on of package entry, as one thing to prove: each call's answer. -/
import Derived.Test.YtkhiejdceefgfaaEnM
import Derived.Test.YtkhiejdceefgfaaEnN
namespace Go.Proofs.Ytkhiejdceefgfaa
open Go.RowKit

structure EntryIs : Prop where
  right : ∀ (a : Ent) (w : World),
    Calls Try.prog 9 #[a.val] w fun e w' => e = .returned (.bool (entR a)) ∧ Below w.heap.size w w'
  body : ∀ (a : Ent) (w : World) (_ : a.name.length ≤ 1000) (_ : a.id < 18446744073709551616),
    Calls Try.prog 11 #[a.val] w fun e w' => ∃ v', e = .returned v' ∧ BytesAt w' v' (bodyL a) ∧ Below w.heap.size w w'
  bytes : ∀ (a : Ent) (w : World) (_ : a.name.length ≤ 1000) (_ : a.tag.length ≤ 1000) (_ : a.id < 18446744073709551616),
    Calls Try.prog 13 #[a.val] w fun e w' => ∃ v', e = .returned v' ∧ BytesAt w' v' (bytesE a) ∧ Below w.heap.size w w'
  read : ∀ (A : Option Addr) (n cap : Nat) (b : List UInt8) (w : World) (_ : n ≤ 3000) (_ : BytesAt w (.slice A n cap) b),
    Calls Try.prog 15 #[.slice A n cap] w fun e w' => e = .returned (.tuple #[(readE b).val, .int .i64 (readX b)]) ∧ Below w.heap.size w w'
  who : ∀ (a b : Ent) (w : World),
    Calls Try.prog 17 #[a.val, b.val] w fun e w' => e = .returned (.bool (entW a b)) ∧ Below w.heap.size w w'
  find : ∀ (A : Option Addr) (m cap : Nat) (l : List Ent) (n : List UInt8) (w : World) (_ : m ≤ 1000000) (_ : EntsAt w (.slice A m cap) l),
    Calls Try.prog 19 #[.slice A m cap, .string ⟨n.toArray⟩] w fun e w' => e = .returned (.int .i64 (findE n l 0)) ∧ Below w.heap.size w w'

def exE : Ent := ⟨[97], 258, 1, 2, 3, List.replicate 32 0⟩
theorem ex_body : bodyL exE = [0, 1, 97, 0, 0, 0, 0, 0, 0, 1, 2, 0, 0, 0, 1, 0, 0, 0, 2, 0, 3] := by decide +kernel
theorem ex_right : entR exE = true := by decide +kernel
theorem ex_read : readX (bytesE exE) = 0 ∧ readE (bytesE exE) = exE := by
  have h := read_back exE ex_right (by decide)
  exact ⟨h.1, readE_back exE ex_right (by decide)⟩
end Go.Proofs.Ytkhiejdceefgfaa
