/- An entry that is read into memory, a reader beside it: what each step leaves. -/
import Derived.Test.YtkhiejdceefgfaaEnM
namespace Go.Proofs.Ytkhiejdceefgfaa
open Go.RowKit

theorem RfS.apart {w w' : World} {g h : Nat} {A : Option Addr} {cap : Nat} {b : List UInt8} {s : RS} (H : RfS w g A cap b s) (hg : w.grownBy w' (some h)) (hn : g ≠ h) (hA : b ≠ [] → ∀ ad, A = some ad → ad.block ≠ h) : RfS w' g A cap b s := by
  obtain ⟨p, hr, hp, hl, ho, hB, hA'⟩ := H
  exact ⟨p, Whole.grown hr hg (fun e => hn (by injection e)), hp, hl, ho, RfS.kept hB hA hg, hA'⟩
theorem RfS.belowR {w w' : World} {g : Nat} {A : Option Addr} {cap : Nat} {b : List UInt8} {s : RS} (H : RfS w g A cap b s) (hb : Below w.heap.size w w') : RfS w' g A cap b s := by
  obtain ⟨p, hr, hp, hl, ho, hB, hA⟩ := H
  exact ⟨p, Whole.below hr hb (Whole.lt hr), hp, hl, ho, hB.below hb, hA⟩
theorem RdS.belowR {w w' : World} {g : Nat} {s : RS} (H : RdS w g s) (hb : Below w.heap.size w w') : RdS w' g s := ⟨Whole.below H.1 hb (Whole.lt H.1), H.2⟩
theorem RdS.apart {w w' : World} {g h : Nat} {s : RS} (H : RdS w g s) (hg : w.grownBy w' (some h)) (hn : g ≠ h) : RdS w' g s := ⟨Whole.grown H.1 hg (fun e => hn (by injection e)), H.2⟩

/-- While the document reads: r is the result, g the reader, x the entry. -/
structure Rf6 (w0 : World) (r g x : Nat) (A : Option Addr) (cap : Nat) (b : List UInt8) (w : World) (e : Ent) (s : RS) : Prop where
  ent : EntAt w x e
  res : EntAt w r ent0
  rd : RfS w g A cap b s
  low : Below w0.heap.size w0 w
  rg : r < g
  gx : g < x
  r0 : w0.heap.size ≤ r
  xz : x < w.heap.size
  far : b ≠ [] → ∀ ad, A = some ad → ad.block < w0.heap.size
section
variable {w0 : World} {r g x : Nat} {A : Option Addr} {cap : Nat} {b : List UInt8} {w w' : World} {e e' : Ent} {s s' : RS}
theorem Rf6.call (H : Rf6 w0 r g x A cap b w e s) (hr : RfS w' g A cap b s') (hg : w.grownBy w' (some g)) : Rf6 w0 r g x A cap b w' e s' where
  ent := Whole.grown H.ent hg (fun k => by injection k with k; have := H.gx; omega)
  res := Whole.grown H.res hg (fun k => by injection k with k; have := H.rg; omega)
  rd := hr
  low := H.low.grown hg H.low.size (fun k hk => by injection hk with hk; have := H.rg; have := H.r0; omega)
  rg := H.rg
  gx := H.gx
  r0 := H.r0
  xz := Nat.lt_of_lt_of_le H.xz hg.size
  far := H.far
theorem Rf6.put (H : Rf6 w0 r g x A cap b w e s) {i : Nat} {u : Value} (h : EntAt (w.setCell ⟨x, i, none⟩ u) x e') : Rf6 w0 r g x A cap b (w.setCell ⟨x, i, none⟩ u) e' s where
  ent := h
  res := Whole.grown H.res (grown_store w x i u) (fun k => by injection k with k; have := H.rg; have := H.gx; omega)
  rd := H.rd.apart (grown_store w x i u) (by have := H.gx; omega) (fun hb ad k => by have := H.far hb ad k; have := H.r0; have := H.rg; have := H.gx; omega)
  low := H.low.grown (grown_store w x i u) H.low.size (fun k hk => by injection hk with hk; have := H.rg; have := H.r0; have := H.gx; omega)
  rg := H.rg
  gx := H.gx
  r0 := H.r0
  xz := by have := H.xz; simpa using this
  far := H.far
theorem Rf6.whole (H : Rf6 w0 r g x A cap b w e s) (hg : w.grownBy w' (some x)) (h : EntAt w' x e') : Rf6 w0 r g x A cap b w' e' s where
  ent := h
  res := Whole.grown H.res hg (fun k => by injection k with k; have := H.rg; have := H.gx; omega)
  rd := H.rd.apart hg (by have := H.gx; omega) (fun hb ad k => by have := H.far hb ad k; have := H.r0; have := H.rg; have := H.gx; omega)
  low := H.low.grown hg H.low.size (fun k hk => by injection hk with hk; have := H.rg; have := H.r0; have := H.gx; omega)
  rg := H.rg
  gx := H.gx
  r0 := H.r0
  xz := Nat.lt_of_lt_of_le H.xz hg.size
  far := H.far
end
end Go.Proofs.Ytkhiejdceefgfaa
