/- Words for all layers: a block known whole, a slice that is just these bytes, its conversion to a string and back, append of bytes, an argument of bytes opened. A statement that leaves its order open, gone through in one order: an operation that answers the same in every world in which all that lies here stays as it is may be taken first; a call that lies alone may be made. -/
import Derived.Test.YtmnhpkdldeifgaaGreatDoorRows
import Derived.WalkKit
import Derived.WalkSpells
import Derived.WalkLawsBesides
import Derived.Lib.Hide
import Derived.Laws.IdiomStrings
import Derived.Laws.BytesArg
import Derived.Deep.AppendLies
import Derived.Deep.RegionLaw
import Derived.ProofKit
import Derived.OpenShut
import Derived.ShutString
import Derived.ChangeOld
import Derived.Below
import Derived.Deep.RegionHeld3
namespace Go.Proofs.YtmnhpkdldeifgaaGreatDoor
set_option maxRecDepth 100000
open Go.RowKit Go.ChangeShapes Go.WideShapes Go.ChangeAt

theorem own : ownKnob Tryz.prog.godebug = none := by kernel_rfl
theorem laidOut : laidOutB Tryz.prog = true := by kernel_rfl
theorem byte_info : (Tryz.prog.info? 5).map (fun i => (i.zero, i.size, i.bytes)) = some (some (.int .u8 0), 1, 1) := by kernel_rfl

/-- Block g is just these cells, of this type, and may be written. -/
def Whole (w : World) (g : Nat) (t : TypeId) (cs : Array Value) : Prop := w.heap[g]? = some (.cells cs t (0, 0))

namespace Whole
variable {w w' : World} {g : Nat} {t : TypeId} {cs : Array Value}
theorem lt (h : Whole w g t cs) : g < w.heap.size := by
  rcases Nat.lt_or_ge g w.heap.size with k | k
  · exact k
  · rw [Whole, Array.getElem?_eq_none k] at h; cases h
theorem at_ (h : Whole w g t cs) (i : Nat) : w.cell? ⟨g, i, none⟩ = cs[i]? := by
  rw [Whole] at h
  simp [World.cell?, h]
theorem free (h : Whole w g t cs) (i : Nat) : w.frozen? ⟨g, i, none⟩ = false := by
  rw [Whole] at h
  simp [World.frozen?, h]
theorem stored (h : Whole w g t cs) (i : Nat) (u : Value) : Whole (w.setCell ⟨g, i, none⟩ u) g t (cs.setIfInBounds i u) := by
  rw [Whole] at h ⊢
  simp [World.setCell, Array.getElem?_modify, h]
theorem far (h : Whole w g t cs) {p : Addr} (hp : g ≠ p.block) (u : Value) : Whole (w.setCell p u) g t cs :=
  (Below.heap_setCell w p u g hp).trans h
theorem alloc (h : Whole w g t cs) (o : Obj) : Whole (w.alloc o) g t cs := (Below.heap_alloc w o g h.lt).trans h
theorem drew (h : Whole w g t cs) : Whole w.drew g t cs := h
theorem drewN (h : Whole w g t cs) (n : Nat) : Whole (w.drewN n) g t cs := h
theorem grown {row : Option Nat} (h : Whole w g t cs) (hg : w.grownBy w' row) (hne : some g ≠ row) : Whole w' g t cs :=
  (hg.block g h.lt hne).trans h
theorem below {B : Nat} (h : Whole w g t cs) (hb : Below B w w') (hg : g < B) : Whole w' g t cs := (hb.block g hg).trans h
theorem new (w : World) (t : TypeId) (cs : Array Value) : Whole (w.alloc (.cells cs t)) w.heap.size t cs := heap_alloc_new w _
end Whole

theorem grown_store (w : World) (g i : Nat) (u : Value) : w.grownBy (w.setCell ⟨g, i, none⟩ u) (some g) :=
  ⟨rfl, rfl, rfl, by simp [World.setCell], fun k _ hne => Below.heap_setCell w _ u k (fun e => hne (by rw [e]))⟩
theorem grown_trans' {a b c : World} {row : Option Nat} (h : a.grownBy b row) (k : b.grownBy c row) : a.grownBy c row :=
  ⟨k.os.trans h.os, k.tape.trans h.tape, k.output.trans h.output, Nat.le_trans h.size k.size, fun i hi hne => (k.block i (Nat.lt_of_lt_of_le hi h.size) hne).trans (h.block i hi hne)⟩


/-- A contract's answer may be said in other words. -/
theorem Calls.turn {P : Program} {f : FuncId} {args args' : Array Value} {w : World} {Q : Ending → World → Prop} (h : Calls P f args w Q) (e : args = args') : Calls P f args' w Q := e ▸ h

theorem ret_int {k : IntKind} {a b : Int} (h : a = b) : Ending.returned (.int k a) = .returned (.int k b) := by rw [h]
theorem ret_str {a b : ByteArray} (h : a = b) : Ending.returned (.string a) = .returned (.string b) := by rw [h]

/-- Bytes as cells. -/
def bv (l : List UInt8) : List Value := l.map fun c => Value.int .u8 (c.toNat : Int)
theorem bv_append (a b : List UInt8) : bv (a ++ b) = bv a ++ bv b := by simp [bv]
theorem bv_length (l : List UInt8) : (bv l).length = l.length := by simp [bv]
theorem bv_one (l : List UInt8) : ∀ u ∈ bv l, u.oneCell' = true := by
  intro u hu
  simp only [bv, List.mem_map] at hu
  obtain ⟨c, _, rfl⟩ := hu
  rfl
theorem take_at {α : Type} {l : List α} {k : Nat} {x : α} (h : l[k]? = some x) : l.take (k + 1) = l.take k ++ [x] := by
  obtain ⟨hk, rfl⟩ := List.getElem?_eq_some_iff.1 h
  exact List.take_succ_eq_append_getElem hk
theorem drop_at {α : Type} {l : List α} {k : Nat} {x : α} (h : l[k]? = some x) : l.drop k = x :: l.drop (k + 1) := by
  obtain ⟨hk, rfl⟩ := List.getElem?_eq_some_iff.1 h
  exact List.drop_eq_getElem_cons hk

/-- The bytes of a list, as a string. -/
def str (l : List UInt8) : ByteArray := ⟨l.toArray⟩
theorem str_size (l : List UInt8) : (str l).size = l.length := by simp [str, ByteArray.size]
theorem str_list (l : List UInt8) : (str l).data.toList = l := by simp [str]
theorem str_back (s : ByteArray) : str s.data.toList = s := by simp [str]
theorem str_take (a b : List UInt8) : (str (a ++ b)).extract 0 a.length = str a := by
  apply ByteArray.ext
  simp [str]
theorem str_drop (a b : List UInt8) : (str (a ++ b)).extract a.length (str (a ++ b)).size = str b := by
  apply ByteArray.ext
  rw [str_size]
  simp [str]

theorem add_block (ad : Addr) (j : Nat) : (ad.add j).block = ad.block := by unfold Addr.add; split <;> rfl

theorem run_append_nothing {P : Program} (w : World) (base : Nat) (t ty e : TypeId) (i : TypeInfo) (size : Nat) (ht : P.underlying t = some (.slice e)) (hi : P.info? e = some i)
    (v : Value) (n : Nat) (xs : List Value) (hown : w.ownsRow base e size v n xs) (c : Nat) :
    (Builtin.append_ #[t, t] ty #[v, .slice none 0 c]).run P w = .ok v w := by
  rcases hown.2 with ⟨rfl, rfl⟩ | ⟨g, cap, cur, rfl, _, _, hnc, _⟩
  · simp [Builtin.append_, run_underlying ht, sizeOf, typeInfo, hi, Builtin.lenOf, Builtin.firstCells]
  · simp [Builtin.append_, run_underlying ht, sizeOf, typeInfo, hi, Builtin.lenOf, Builtin.firstCells, hnc, storeCells]

theorem below_drewN {B : Nat} {a w : World} (h : Below B a w) (n : Nat) : Below B a (w.drewN n) := ⟨h.os, h.tape, h.output, h.size, h.block⟩
theorem grown_drewN {a w : World} {row : Option Nat} (h : a.grownBy w row) (n : Nat) : a.grownBy (w.drewN n) row := ⟨h.os, h.tape, h.output, h.size, h.block⟩
/-- The slice v is just these bytes. -/
def BytesAt (w : World) (v : Value) (l : List UInt8) : Prop :=
  ∃ A cap, v = .slice A l.length cap ∧ l.length ≤ cap ∧ (l ≠ [] → ∃ ad : Addr, A = some ad ∧ ∀ j c, l[j]? = some c → w.cell? (ad.add j) = some (.int .u8 (c.toNat : Int)))

theorem BytesAt.of_own {w : World} {base : Nat} {v : Value} {l : List UInt8} (h : w.ownsRow base 5 1 v l.length (bv l)) : BytesAt w v l := by
  have hc := @World.ownsRow.cells _ _ _ _ _ _ _ h
  rcases h.2 with ⟨rfl, hn⟩ | ⟨g, cap, cur, rfl, _, _, hcap, _⟩
  · rw [List.length_eq_zero_iff] at hn
    subst hn
    exact ⟨none, 0, rfl, Nat.le_refl _, fun h => absurd rfl h⟩
  · refine ⟨_, cap, rfl, hcap, fun _ => ⟨_, rfl, fun j c hj => ?_⟩⟩
    exact hc (g := g) rfl j _ (by simp [bv, hj])

theorem BytesAt.keep {w w' : World} {v : Value} {l : List UInt8} (h : BytesAt w v l) (hk : l ≠ [] → ∀ g, g < w.heap.size → v.ownBlock = some g → w'.heap[g]? = w.heap[g]?) : BytesAt w' v l := by
  obtain ⟨A, cap, rfl, hcap, hc⟩ := h
  refine ⟨A, cap, rfl, hcap, fun hl => ?_⟩
  obtain ⟨ad, rfl, hcell⟩ := hc hl
  refine ⟨ad, rfl, fun j c hj => ?_⟩
  have h1 := hcell j c hj
  have hlt := World.block_lt_of_cell? w _ h1
  rw [add_block] at hlt
  rw [← h1]
  exact World.cell?_of_block (by rw [add_block]; exact hk hl ad.block hlt rfl)
theorem BytesAt.below {w w' : World} {v : Value} {l : List UInt8} (h : BytesAt w v l) (hb : Below w.heap.size w w') : BytesAt w' v l := h.keep fun _ g hg _ => hb.block g hg
theorem BytesAt.lt {w : World} {A : Option Addr} {n cap : Nat} {l : List UInt8} (h : BytesAt w (.slice A n cap) l) (hl : l ≠ []) : ∃ ad, A = some ad ∧ ad.block < w.heap.size := by
  obtain ⟨A', cap', e, _, hc⟩ := h
  injection e with e1 e2 e3
  subst e1
  obtain ⟨ad, rfl, hcell⟩ := hc hl
  refine ⟨ad, rfl, ?_⟩
  have h1 := hcell 0 (l.head hl) (by rw [← List.head?_eq_getElem?]; exact List.head?_eq_some_head hl)
  have hlt := World.block_lt_of_cell? w _ h1
  rwa [add_block] at hlt

theorem conv_bytes {w : World} {v : Value} {l : List UInt8} (h : BytesAt w v l) : (convert 25 9 v).run Tryz.prog w = .ok (.string ⟨l.toArray⟩) w := by
  obtain ⟨A, cap, rfl, -, hc⟩ := h
  cases A with
  | none =>
    have hl : l = [] := by
      by_cases e : l = []
      · exact e
      · obtain ⟨ad, h, _⟩ := hc e
        cases h
    subst hl
    exact run_convert_bytes_nil w _ _ Tryz.underlying25 Tryz.underlying5 _ _ _ Tryz.underlying9
  | some ad =>
    refine run_convert_bytes_back w _ _ _ ad cap l Tryz.underlying25 Tryz.underlying5 Tryz.underlying9 fun j hj => ?_
    obtain ⟨ad', h, hcell⟩ := hc (by rintro rfl; simp at hj)
    injection h with h
    subst h
    exact hcell j _ (List.getElem?_eq_getElem hj)

set_option maxRecDepth 100000 in
theorem run_append_bytes (w : World) (base : Nat) (ty : TypeId) (v : Value) (n : Nat) (xs : List Value) (hown : w.ownsRow base 5 1 v n xs) (src : Value) (l : List UInt8) (hs : BytesAt w src l)
    (hlen : n + l.length ≤ 10000000) (hbase : base ≤ w.heap.size) :
    ∃ v' w', (Builtin.append_ #[25, 25] ty #[v, src]).run Tryz.prog w = .ok v' w' ∧ w'.ownsRow base 5 1 v' (n + l.length) (xs ++ bv l) ∧ w.grownBy w' v.ownBlock := by
  obtain ⟨i0, hi0, hz0, hz1, hz2⟩ := info_parts byte_info
  obtain ⟨A, cap, rfl, -, hc⟩ := hs
  cases A with
  | none =>
    have hl : l = [] := by
      by_cases e : l = []
      · exact e
      · obtain ⟨ad, h, _⟩ := hc e
        cases h
    subst hl
    exact ⟨v, w, run_append_nothing w base _ ty _ i0 1 Tryz.underlying25 hi0 v n xs hown cap, by simpa [bv] using hown, World.grownBy.refl w _⟩
  | some ad =>
    obtain ⟨v', w', hr, ho, hg, _⟩ := run_append_own (P := Tryz.prog) w base 25 ty 5 i0 (.int .u8 0) 1 1 Tryz.underlying25 hi0 hz0 hz1 hz2 rfl (by decide) v n xs hown ad l.length cap (bv l) (by rw [bv_length, Nat.mul_one]) (fun j u hu => by
      simp only [bv, List.getElem?_map, Option.map_eq_some_iff] at hu
      obtain ⟨c, hcj, rfl⟩ := hu
      obtain ⟨ad', h, hcell⟩ := hc (by rintro rfl; simp at hcj)
      injection h with h
      subst h
      exact hcell j c hcj) (bv_one l) (by simp only [maxLen]; omega) (by omega) hbase
    exact ⟨v', w', hr, ho, hg⟩

theorem wp_append_bytes {w : World} {o : Oper} {a : Act} {K : Act → World → Prop} {Q : Exit → Act → World → Prop} (s x : Operand)
    (ho : o.op = .call { callee := .builtin .append, args := #[s, x], argTypes := #[25, 25] })
    (base : Nat) (v : Value) (n : Nat) (xs : List Value) (hv : a.eval s = v) (hown : w.ownsRow base 5 1 v n xs) (src : Value) (l : List UInt8) (hx : a.eval x = src) (hs : BytesAt w src l)
    (hlen : n + l.length ≤ 10000000) (hbase : base ≤ w.heap.size)
    (h : ∀ v' w', w'.ownsRow base 5 1 v' (n + l.length) (xs ++ bv l) → w.grownBy w' v.ownBlock → K (a.put o.dst v') w') : o.wp Tryz.prog a w K Q := by
  obtain ⟨v', w', hr, h2, h3⟩ := run_append_bytes w base o.type v n xs hown src l hs hlen hbase
  unfold Oper.wp execOp
  simp only [ho, resolve, invoke, builtin, Sem.run_bind, Sem.run_pure, Result.andThen_ok, List.map_toArray, List.map_cons, List.map_nil, hv, hx, hr]
  exact h v' w' h2 h3

theorem wpList_append_bytes {w : World} {ops : Array Oper} {rest : List Oper} {o : Oper} {a : Act} {Q : Exit → Act → World → Prop} (hgd : o.guard = none) (s x : Operand)
    (ho : o.op = .call { callee := .builtin .append, args := #[s, x], argTypes := #[25, 25] })
    (base : Nat) (v : Value) (n : Nat) (xs : List Value) (hv : a.eval s = v) (hown : w.ownsRow base 5 1 v n xs) (src : Value) (l : List UInt8) (hx : a.eval x = src) (hs : BytesAt w src l)
    (hlen : n + l.length ≤ 10000000) (hbase : base ≤ w.heap.size)
    (h : ∀ v' w', w'.ownsRow base 5 1 v' (n + l.length) (xs ++ bv l) → w.grownBy w' v.ownBlock → wpList Tryz.prog ops Q rest (a.put o.dst v') w') : wpList Tryz.prog ops Q (o :: rest) a w :=
  wpList_plain hgd fun _ hK => wp_append_bytes s x ho base v n xs hv hown src l hx hs hlen hbase fun v' w' h2 h3 => hK _ _ (h v' w' h2 h3)

/-- A string made bytes: a slice of the call's own. -/
theorem conv_str (w : World) (s : ByteArray) : ∃ vs w2, (convert 9 25 (.string s)).run Tryz.prog w = .ok vs w2 ∧ BytesAt w2 vs s.data.toList ∧ Below w.heap.size w w2 := by
  refine ⟨_, _, run_bytes_of_string (P := Tryz.prog) w 9 25 5 s Tryz.underlying9 Tryz.underlying25 Tryz.underlying5, ?_, (Below.refl _ _).drew.alloc (Nat.le_refl _) _⟩
  have hlen : s.data.toList.length = s.size := by simp
  refine ⟨_, _, by rw [hlen], by rw [hlen]; exact grownCap_ge _ _ _ _, fun _ => ⟨_, rfl, fun j c hj => ?_⟩⟩
  have ha : (⟨w.heap.size, 0, none⟩ : Addr).add j = ⟨w.heap.size, j, none⟩ := by unfold Addr.add; split <;> simp_all
  obtain ⟨hjl, hjc⟩ := List.getElem?_eq_some_iff.1 hj
  have hjs : j < s.data.size := by simpa using hjl
  rw [ha]
  have hh : (w.drew.alloc (.cells (bytesRow s (grownCap w s.size 0 5)) 5 ((bytesRow s (grownCap w s.size 0 5)).size, (bytesRow s (grownCap w s.size 0 5)).size + 1))).heap[w.heap.size]? = some (.cells (bytesRow s (grownCap w s.size 0 5)) 5 ((bytesRow s (grownCap w s.size 0 5)).size, (bytesRow s (grownCap w s.size 0 5)).size + 1)) := heap_alloc_new w.drew _
  rw [cell_of_row _ _ _ _ _ _ hh, bytesRow_at s _ j hjs]
  simp at hjc
  rw [hjc]

/-- An empty literal is owned. -/
theorem own_empty (w : World) : (w.alloc (.cells #[] 5)).ownsRow w.heap.size 5 1 (.slice (some ⟨w.heap.size, 0, none⟩) 0 0) 0 [] :=
  World.ownsRow_lit w #[] 0 (Nat.le_refl _) (by simp [maxLen]) rfl

theorem step_append_bytes {w : World} {ops : Array Oper} {o : Oper} {a : Act} {K : Act → World → Prop} {Q : Exit → Act → World → Prop} {E : Prop} (hw : Region.wanted o (yielded ops a.tmps) = true) (s x : Operand)
    (ho : o.op = .call { callee := .builtin .append, args := #[s, x], argTypes := #[25, 25] })
    (base : Nat) (v : Value) (n : Nat) (xs : List Value) (hv : a.eval s = v) (hown : w.ownsRow base 5 1 v n xs) (src : Value) (l : List UInt8) (hx : a.eval x = src) (hs : BytesAt w src l)
    (hlen : n + l.length ≤ 10000000) (hbase : base ≤ w.heap.size)
    (h : ∀ v' w', w'.ownsRow base 5 1 v' (n + l.length) (xs ++ bv l) → w.grownBy w' v.ownBlock → K (a.put o.dst v') w') :
    if Region.wanted o (yielded ops a.tmps) = true then Oper.wp Tryz.prog o a w K Q else E := by
  rw [if_pos hw]
  exact wp_append_bytes s x ho base v n xs hv hown src l hx hs hlen hbase h

theorem byte_back (n : Int) (h : (Lit.int .u8 n).wf = true) : ((UInt8.ofNat n.toNat).toNat : Int) = n := by
  have := bounds_u8 h
  simp
  omega

theorem open_bytes {H : Type} {enc : TypeId × Value → H} {W : World} {b : Nat} {sp : Nat → Bool} {hd : Bool} {a : Option Addr} {len cap : Nat} {d : DataW H} {p : List MemPlace}
    (h : DataW.Trod enc Tryz.prog W b sp hd 25 (.slice a len cap) d p) : ∃ l, BytesAt W (.slice a len cap) l := by
  obtain ⟨fuel, hf⟩ := h
  rcases open_ints Tryz.underlying25 Tryz.underlying5 (by kernel_rfl) hf with ⟨hcs, _⟩ | ⟨x, l, c, zs, hcs, _, hl, hm, hz, _, hcell, hwz⟩
  · simp [Value.cells] at hcs
    obtain ⟨rfl, rfl, rfl⟩ := hcs
    exact ⟨[], none, 0, rfl, Nat.le_refl _, fun h => absurd rfl h⟩
  · simp [Value.cells] at hcs
    obtain ⟨rfl, rfl, rfl⟩ := hcs
    have hlen : len ≤ zs.length := by rw [hz]; split <;> omega
    refine ⟨(zs.take len).map fun n => UInt8.ofNat n.toNat, some x, cap, by simp [Nat.min_eq_left hlen], by simp; omega, fun _ => ⟨x, rfl, fun j c hj => ?_⟩⟩
    simp only [List.getElem?_map, Option.map_eq_some_iff, List.getElem?_take] at hj
    obtain ⟨n, hn, rfl⟩ := hj
    split at hn
    · have hjl : j < zs.length := (List.getElem?_eq_some_iff.1 hn).1
      have hmem : n ∈ zs := List.mem_of_getElem? hn
      rw [hcell j hjl, byte_back n (hwz n hmem)]
      simp [List.getD, hn]
    · cases hn

/-- Where they lie, and each of them. -/
theorem BytesAt.spots {w : World} {A : Option Addr} {n cap : Nat} {l : List UInt8} (h : BytesAt w (.slice A n cap) l) (hl : l ≠ []) :
    ∃ b off, A = some ⟨b, off, none⟩ ∧ b < w.heap.size ∧ ∀ j c, l[j]? = some c → w.cell? ⟨b, off + j, none⟩ = some (.int .u8 (c.toNat : Int)) := by
  obtain ⟨ad, rfl, hlt⟩ := h.lt hl
  obtain ⟨A', cap', e, _, hc⟩ := h
  injection e with e1 e2 e3
  subst e1
  obtain ⟨ad', e', hcell⟩ := hc hl
  injection e' with e'
  subst e'
  have h1 := hcell 0 (l.head hl) (by rw [← List.head?_eq_getElem?]; exact List.head?_eq_some_head hl)
  obtain ⟨b, off, spot⟩ := ad
  have hspot : spot = none := by simpa [Addr.add] using World.cell?_spot h1
  subst hspot
  refine ⟨b, off, rfl, hlt, fun j c hj => ?_⟩
  have ha : (⟨b, off, none⟩ : Addr).add j = ⟨b, off + j, none⟩ := by unfold Addr.add; split <;> simp_all
  rw [← ha]
  exact hcell j c hj
theorem BytesAt.size {w : World} {A : Option Addr} {n cap : Nat} {l : List UInt8} (h : BytesAt w (.slice A n cap) l) : n = l.length ∧ n ≤ cap := by
  obtain ⟨A', cap', e, hn, _⟩ := h
  injection e with e1 e2 e3
  subst e2 e3
  exact ⟨rfl, hn⟩
/-- The first of them. -/
theorem BytesAt.first {w : World} {A : Option Addr} {n cap : Nat} {l : List UInt8} (h : BytesAt w (.slice A n cap) l) (m : Nat) (hm : m ≤ n) : BytesAt w (.slice A m cap) (l.take m) := by
  obtain ⟨e, hn⟩ := h.size
  subst e
  obtain ⟨A', cap', e, _, hc⟩ := h
  injection e with e1 e2 e3
  subst e1
  have hlen : (l.take m).length = m := by simp; omega
  refine ⟨A, cap, by rw [hlen], by omega, fun hl => ?_⟩
  obtain ⟨ad, rfl, hcell⟩ := hc (by rintro rfl; simp at hl)
  refine ⟨ad, rfl, fun j c hj => hcell j c ?_⟩
  rw [List.getElem?_take] at hj
  split at hj
  · exact hj
  · cases hj
theorem BytesAt.nil (w : World) : BytesAt w (.slice none 0 0) [] := ⟨none, 0, rfl, Nat.le_refl _, fun h => absurd rfl h⟩
/-- A literal's. -/
theorem BytesAt.lit (w : World) (l : List UInt8) (cs : Array Value) (hc : cs = (bv l).toArray) : BytesAt (w.alloc (.cells cs 5)) (.slice (some ⟨w.heap.size, 0, none⟩) l.length l.length) l := by
  subst hc
  refine ⟨_, _, rfl, Nat.le_refl _, fun _ => ⟨_, rfl, fun j c hj => ?_⟩⟩
  have ha : (⟨w.heap.size, 0, none⟩ : Addr).add j = ⟨w.heap.size, j, none⟩ := by unfold Addr.add; split <;> simp_all
  rw [ha, (Whole.new w 5 _).at_ j]
  simp [bv, hj]
theorem BytesAt.drewN {w : World} {v : Value} {l : List UInt8} (h : BytesAt w v l) (k : Nat) : BytesAt (w.drewN k) v l := h.keep fun _ _ _ _ => rfl
end Go.Proofs.YtmnhpkdldeifgaaGreatDoor

namespace Go.Proofs.YtmnhpkdldeifgaaGreatDoor
set_option maxRecDepth 100000
open Go.RowKit

/-- All that lies in w is as it was. -/
abbrev From (w : World) : World → Prop := fun w' => Below w.heap.size w w'

theorem anyH_mono {P : Program} {md : Region.Mode} {ops : Array Oper} {Q : Exit → Act → World → Prop} {S S' : World → Prop} (hs : ∀ w, S' w → S w) :
    ∀ (fuel : Nat) (listed : Array Bool) (a : Act) (w : World), wpAnyH P md ops Q S' fuel listed a w → wpAnyH P md ops Q S fuel listed a w
  | 0, _, _, _, h => h
  | fuel + 1, _, _, _, h => ⟨h.1, fun i hi => wpOp_mono (fun a' w' h' => ⟨hs _ h'.1, anyH_mono hs fuel _ a' w' h'.2⟩) (h.2 i hi)⟩

theorem drop_nth {l : List Oper} {i : Nat} {o : Oper} {rest : List Oper} (h : l.drop i = o :: rest) : l.toArray[i]? = some o := by
  have : (l.drop i)[0]? = some o := by rw [h]; rfl
  simpa using this

section
variable {P : Program} {md : Region.Mode} {l : List Oper} {Q : Exit → Act → World → Prop} {fuel : Nat} {listed : Array Bool} {a : Act} {w : World} {i : Nat} {o : Oper} {rest : List Oper}

/-- It begins. -/
theorem reg_begin {id : Nat} (hm : P.follows .mixedOrders = true) (h : ∀ w', Below w.heap.size w w' → w'.heap.size = w.heap.size → wpAnyH P .any l.toArray Q (From w') l.length (Array.replicate l.length false) a w') : (Code.region id l.toArray true).wp P Q a w :=
  wp_region_held_drew (S := From w.drew) hm (Below.refl _ _) fun _ => by
    have := h w.drew ((Below.refl _ _).drew) rfl
    simpa using this

/-- An operation that only reads is taken first. -/
theorem reg_take {v : Value} (hi : l.drop i = o :: rest) (hs : Region.noSelect l.toArray = true) (hf : Region.free md l.toArray listed i = true) (hr : (Region.ready md l.toArray listed).contains i = true)
    (hQ : ∀ c a w, Q (.panic c) (a.put o.dst v) w → Q (.panic c) a w) (hw : Region.wanted o (yielded l.toArray a.tmps) = true) (hy : ∀ w', Below w.heap.size w w' → (execOp a.eval o).run P w' = .ok (.value v) w')
    (h : wpAnyH P md l.toArray Q (From w) fuel (listed.setIfInBounds i true) (a.put o.dst v) w) : wpAnyH P md l.toArray Q (From w) (fuel + 1) listed a w :=
  wpAnyH_take (drop_nth hi) hs hf hr hQ (Or.inl ⟨hw, hy⟩) (Below.refl _ _) h

/-- An operation that is not wanted is passed over. -/
theorem reg_skip (hi : l.drop i = o :: rest) (hs : Region.noSelect l.toArray = true) (hf : Region.free md l.toArray listed i = true) (hr : (Region.ready md l.toArray listed).contains i = true)
    (hQ : ∀ c a w, Q (.panic c) (a.put o.dst undef) w → Q (.panic c) a w) (hw : Region.wanted o (yielded l.toArray a.tmps) = false)
    (h : wpAnyH P md l.toArray Q (From w) fuel (listed.setIfInBounds i true) (a.put o.dst undef) w) : wpAnyH P md l.toArray Q (From w) (fuel + 1) listed a w :=
  wpAnyH_take (drop_nth hi) hs hf hr hQ (Or.inr ⟨hw, rfl⟩) (Below.refl _ _) h

/-- A call that alone may come up is made. -/
theorem reg_call (hi : l.drop i = o :: rest) (hr : Region.ready md l.toArray listed = [i])
    (h : ∀ K' : Act → World → Prop, Shut (∀ a w', Below w.heap.size w w' → wpAnyH P md l.toArray Q (From w') fuel (listed.setIfInBounds i true) a w' → K' a w') → if Region.wanted o (yielded l.toArray a.tmps) = true then Oper.wp P o a w K' Q else K' (a.put o.dst undef) w) :
    wpAnyH P md l.toArray Q (From w) (fuel + 1) listed a w :=
  wpAnyH_ready hr (by simp) (AllReadyH.cons (drop_nth hi) (fun K' hK => h K' (fun a w' hb hn => hK.out a w' hb fun _ => anyH_mono (fun w'' (h'' : Below w'.heap.size w' w'') => hb.trans (h''.mono hb.size)) _ _ _ _ hn)) AllReadyH.nil)

/-- It ends. -/
theorem reg_end {n : Nat} (hr : Region.ready md l.toArray listed = []) (h : Q .normal a w) : wpAnyH P md l.toArray Q (From w) n listed a w := wpAnyH_done hr h n
end
end Go.Proofs.YtmnhpkdldeifgaaGreatDoor
