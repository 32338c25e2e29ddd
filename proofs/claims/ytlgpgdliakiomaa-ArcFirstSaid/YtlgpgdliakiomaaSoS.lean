/- The library's stable sort, walked: symMerge: two runs become one. -/
import Derived.Test.YtlgpgdliakiomaaSoB
import Derived.Test.YtlgpgdliakiomaaSoH
import Derived.Test.YtlgpgdliakiomaaSoL
namespace Go.Proofs.Ytlgpgdliakiomaa
open Go.Shelf Go.RowKit Go.Lib Go.Sort Go.Proofs

set_option maxRecDepth 1000000 in
set_option maxHeartbeats 2000000 in
theorem symMerge_any (g : Nat) (cb : Array Value) (cf : Nat → Nat → Int) (hS : SWO (ltOf cf)) (blk off cap : Nat) (d0 : Array Nat) (w0 : World)
    (eg : ∀ args w, (callFunc g args).run Try.prog w = .ok (.enter g args) w) (hcmp : CmpLays1 Try.prog g cb encU cf blk off d0.size w0) (R : Row1 encU w0 blk off d0) (z : Nat) : ∀ (a m b : Nat) (d : Array Nat) (w : World) (_ : b - a ≤ z)
    (_ : d0.size = d.size) (_ : SW encU w0 blk off d w) (_ : d.size < 4611686018427387904) (_ : a < m) (_ : m < b) (_ : b ≤ d.size) (_ : SortedIn (ltOf cf) a m d) (_ : SortedIn (ltOf cf) m b d),
    Calls Try.prog 28 #[.slice (some ⟨blk, off, none⟩) d.size cap, .int .i64 (a : Int), .int .i64 (m : Int), .int .i64 (b : Int), .func (.func g) #[] cb] w fun e w' => e = .returned (.tuple #[]) ∧ ∃ d', SW encU w0 blk off d' w' ∧ PermIn a b d d' ∧ SortedIn (ltOf cf) a b d' := by
  induction z with
  | zero => intro a m b d w hz _ _ _ h1 h2; omega
  | succ z ih =>
    intro a m b d w hz hs S hsz h1 h2 h3 hA hB
    by_cases hm1 : m = a + 1
    · exact sym_one g cb cf hS blk off cap d0 w0 eg hcmp R a m b d w hs S hsz h1 h2 h3 hA hB hm1
    · by_cases hb1 : b = m + 1
      · exact sym_two g cb cf hS blk off cap d0 w0 eg hcmp R a m b d w hs S hsz h1 h2 h3 hA hB hm1 hb1
      · by_cases hway : (a + b) / 2 < m
        · exact sym_high g cb cf hS blk off cap d0 w0 eg hcmp R z ih a m b d w hz hs S hsz h1 h2 h3 hA hB hm1 hb1 _ rfl hway
        · exact sym_low g cb cf hS blk off cap d0 w0 eg hcmp R z ih a m b d w hz hs S hsz h1 h2 h3 hA hB hm1 hb1 _ rfl hway
end Go.Proofs.Ytlgpgdliakiomaa
