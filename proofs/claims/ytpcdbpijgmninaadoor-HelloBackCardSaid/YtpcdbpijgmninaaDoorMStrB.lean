/- A string made bytes, one of which is changed. -/
import Derived.Test.YtpcdbpijgmninaaDoorGc
namespace Go.Proofs.YtpcdbpijgmninaaDoor
set_option maxRecDepth 100000
open Go.RowKit Go.ChangeShapes Go.WideShapes Go.ChangeAt

theorem bytes_of_fcells {w : World} {g : Nat} {t : TypeId} {cs : Array Value} {fr : Nat × Nat} {l : List UInt8} {cap : Nat} (h : w.heap[g]? = some (.cells cs t fr)) (hc : l.length ≤ cap) (hl : ∀ (j : Nat) (c : UInt8), l[j]? = some c → cs[j]? = some (Value.int .u8 (c.toNat : Int))) : BytesAt w (.slice (some ⟨g, 0, none⟩) l.length cap) l := by
  refine ⟨_, _, rfl, hc, fun _ => ⟨_, rfl, fun j c hj => ?_⟩⟩
  have ha : (⟨g, 0, none⟩ : Addr).add j = ⟨g, j, none⟩ := by unfold Addr.add; split <;> simp_all
  rw [ha]
  have := hl j c hj
  simp [World.cell?, h, this]
theorem conv_str_set (w : World) (l : List UInt8) : ∃ cap w2, (convert 9 42 (.string ⟨l.toArray⟩)).run Tryd.prog w = .ok (.slice (some ⟨w.heap.size, 0, none⟩) l.length cap) w2 ∧ l.length ≤ cap ∧
    BytesAt w2 (.slice (some ⟨w.heap.size, 0, none⟩) l.length cap) l ∧ Below w.heap.size w w2 ∧ w.heap.size < w2.heap.size ∧
    ∀ (i : Nat) (c : UInt8), l[i]? = some c → w2.cell? ⟨w.heap.size, i, none⟩ = some (.int .u8 (c.toNat : Int)) ∧ w2.frozen? ⟨w.heap.size, i, none⟩ = false ∧
      ∀ x : UInt8, BytesAt (w2.setCell ⟨w.heap.size, i, none⟩ (.int .u8 (x.toNat : Int))) (.slice (some ⟨w.heap.size, 0, none⟩) l.length cap) (l.set i x) := by
  obtain ⟨s, hs⟩ : ∃ s : ByteArray, s = ⟨l.toArray⟩ := ⟨_, rfl⟩
  have hsz : s.size = l.length := by rw [hs]; rfl
  have r := run_bytes_of_string (P := Tryd.prog) w 9 42 5 s Tryd.underlying9 Tryd.underlying42 Tryd.underlying5
  have hge := grownCap_ge w s.size 0 5
  have hat : ∀ (j : Nat) (c : UInt8), l[j]? = some c → (bytesRow s (grownCap w s.size 0 5))[j]? = some (Value.int .u8 (c.toNat : Int)) := fun j c hj => by
    have hjl : j < s.data.size := by
      have := (List.getElem?_eq_some_iff.1 hj).1
      have : s.data.size = l.length := hsz
      omega
    rw [bytesRow_at s _ j hjl]
    subst hs
    obtain ⟨h1, rfl⟩ := List.getElem?_eq_some_iff.1 hj
    simp
  have hh : (w.drew.alloc (.cells (bytesRow s (grownCap w s.size 0 5)) 5 ((bytesRow s (grownCap w s.size 0 5)).size, (bytesRow s (grownCap w s.size 0 5)).size + 1))).heap[w.heap.size]? = some (.cells (bytesRow s (grownCap w s.size 0 5)) 5 ((bytesRow s (grownCap w s.size 0 5)).size, (bytesRow s (grownCap w s.size 0 5)).size + 1)) := heap_alloc_new w.drew _
  rw [hsz] at r hge hat hh
  rw [← hs]
  generalize grownCap w l.length 0 5 = cap at *
  generalize bytesRow s cap = cs at *
  have hb : Below w.heap.size w (w.drew.alloc (.cells cs 5 (cs.size, cs.size + 1))) := (Below.refl _ _).drew.alloc (Nat.le_refl _) _
  have hlt : w.heap.size < (w.drew.alloc (.cells cs 5 (cs.size, cs.size + 1))).heap.size := by simp
  generalize w.drew.alloc (.cells cs 5 (cs.size, cs.size + 1)) = w2 at *
  refine ⟨cap, w2, r, hge, bytes_of_fcells hh hge hat, hb, hlt, fun i c hi => ?_⟩
  have hil : i < cs.size := (Array.getElem?_eq_some_iff.1 (hat i c hi)).1
  refine ⟨by simp [World.cell?, hh, hat i c hi], by simp [World.frozen?, hh]; omega, fun x => ?_⟩
  have h2 : (w2.setCell ⟨w.heap.size, i, none⟩ (.int .u8 (x.toNat : Int))).heap[w.heap.size]? = some (.cells (cs.setIfInBounds i (.int .u8 (x.toNat : Int))) 5 (cs.size, cs.size + 1)) := by
    simp [World.setCell, Array.getElem?_modify, hh]
  have hl : (l.set i x).length = l.length := List.length_set
  rw [← hl]
  refine bytes_of_fcells h2 (by rw [hl]; exact hge) (fun j d hd => ?_)
  rw [List.getElem?_set] at hd
  by_cases e : i = j
  · subst e
    rw [if_pos rfl] at hd
    split at hd
    · injection hd with hd
      subst hd
      simp [hil]
    · cases hd
  · rw [if_neg e] at hd
    rw [Array.getElem?_setIfInBounds_ne e]
    exact hat j d hd
end Go.Proofs.YtpcdbpijgmninaaDoor
