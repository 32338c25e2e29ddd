/- Append of bytes, and where the new slice lies; two rows apart. -/
import Derived.Test.YtjohlnpalcmhbaaGenA
import Derived.Maps.AppendAt
namespace Go.Proofs.Ytjohlnpalcmhbaa
set_option maxRecDepth 100000
open Go.RowKit

/-- Two rows that the call owns lie apart, or neither lies anywhere. -/
def Apt (v u : Value) : Prop := (v.ownBlock = none ∧ u.ownBlock = none) ∨ v.ownBlock ≠ u.ownBlock
theorem Apt.turn {v u : Value} (h : Apt v u) : Apt u v := h.imp (fun p => ⟨p.2, p.1⟩) (fun p e => p e.symm)
theorem Apt.far {v u : Value} (h : Apt v u) : u.ownBlock = none ∨ u.ownBlock ≠ v.ownBlock := h.imp (fun p => p.2) (fun p e => p e.symm)
theorem Apt.next {w : World} {v v' u : Value} {B : Nat} {e : TypeId} {s n : Nat} {xs : List Value} (h : Apt v u) (ho : w.ownsRow B e s u n xs) {H : Nat} (hat : v'.ownBlock = v.ownBlock ∨ v'.ownBlock = some H) (hH : w.heap.size = H) : Apt v' u := by
  subst hH
  rcases hat with e1 | e1
  · unfold Apt; rw [e1]; exact h
  · right
    rw [e1]
    intro e2
    have := (ho.lt _ e2.symm).2
    omega
/-- A row owned from B on is owned from below it. -/
theorem own_less {w : World} {B B' : Nat} {e : TypeId} {s : Nat} {v : Value} {n : Nat} {xs : List Value} (h : w.ownsRow B e s v n xs) (hb : B' ≤ B) : w.ownsRow B' e s v n xs :=
  ⟨h.1, h.2.imp id fun ⟨g, cap, cur, h1, h2, h3⟩ => ⟨g, cap, cur, h1, Nat.le_trans hb h2, h3⟩⟩

theorem own_form {w : World} {B : Nat} {e : TypeId} {s : Nat} {v : Value} {n : Nat} {xs : List Value} (h : w.ownsRow B e s v n xs) : ∃ A cap, v = .slice A n cap := by
  rcases h.2 with ⟨h1, h2⟩ | ⟨g, cap, cur, h1, -⟩
  · subst h2; exact ⟨_, _, h1⟩
  · exact ⟨_, _, h1⟩
theorem kept_below {w w' : World} {B C : Nat} {e : TypeId} {s : Nat} {v : Value} {n : Nat} {xs : List Value} (h : w.ownsRow B e s v n xs) (hb : Below C w w') (hc : C = w.heap.size) : w'.ownsRow B e s v n xs := by
  subst hc
  exact h.kept (row := none) ⟨hb.os, hb.tape, hb.output, hb.size, fun k hk _ => hb.block k hk⟩ (Classical.em _)
/-- Four results. -/
theorem results_tmp4 {fn : Func} {t u v x : Tmp} (h : fn.results = #[.tmp t, .tmp u, .tmp v, .tmp x]) (tmps : Array Value) (P : Program) (w : World) :
    (results fn tmps).run P w = .ok (.tuple #[tmps.getD t undef, tmps.getD u undef, tmps.getD v undef, tmps.getD x undef]) w := by
  simp [results, h]
def sliceLen : Value → Nat
  | .slice _ n _ => n
  | _ => 0
end Go.Proofs.Ytjohlnpalcmhbaa
