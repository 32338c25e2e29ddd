/- Readers, the package's and the document's: what keeps them. -/
import Derived.Test.YtmnhpkdldeifgaaDoorGf
namespace Go.Proofs.YtmnhpkdldeifgaaDoor
set_option maxRecDepth 100000
open Go.RowKit

theorem RfS.apart {w w' : World} {g h : Nat} {A : Option Addr} {cap : Nat} {b : List UInt8} {s : RS} (H : RfS w g A cap b s) (hg : w.grownBy w' (some h)) (hn : g ≠ h) (hA : b ≠ [] → ∀ ad, A = some ad → ad.block ≠ h) : RfS w' g A cap b s := by
  obtain ⟨p, hr, hp, hl, ho, hB, hA'⟩ := H
  exact ⟨p, Whole.grown hr hg (fun e => hn (by injection e)), hp, hl, ho, RfS.kept hB hA hg, hA'⟩
theorem RfS.belowR {w w' : World} {g : Nat} {A : Option Addr} {cap : Nat} {b : List UInt8} {s : RS} (H : RfS w g A cap b s) (hb : Below w.heap.size w w') : RfS w' g A cap b s := by
  obtain ⟨p, hr, hp, hl, ho, hB, hA⟩ := H
  exact ⟨p, Whole.below hr hb (Whole.lt hr), hp, hl, ho, hB.below hb, hA⟩
theorem RdS.belowR {w w' : World} {g : Nat} {s : RS} (H : RdS w g s) (hb : Below w.heap.size w w') : RdS w' g s := ⟨Whole.below H.1 hb (Whole.lt H.1), H.2⟩
theorem RdS.apart {w w' : World} {g h : Nat} {s : RS} (H : RdS w g s) (hg : w.grownBy w' (some h)) (hn : g ≠ h) : RdS w' g s := ⟨Whole.grown H.1 hg (fun e => hn (by injection e)), H.2⟩
end Go.Proofs.YtmnhpkdldeifgaaDoor
