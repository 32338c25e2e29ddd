/- A statement that leaves its order open, gone through in one order: an operation that answers the same in every world in which all that lies here stays as it is may be taken first; a call that lies alone may be made. A statement that leaves its order open, with one condition S on the world that every operation keeps; and steps for whole arrays by value. Over XGenA's words: what pack.Num and the document's Num (carcanetref01) put. -/
import Derived.Test.YtnjeopgcpffkcaaGa
import Derived.Deep.RegionHeld3
import Derived.Deep.WholeRow
import Derived.StillTailTactics
import Derived.Lib.AppendStr
import Derived.Deep.DeepCutAuto
import Derived.Deep.LoopGhost
import Derived.ChangeAlike
namespace Go.Proofs.Ytnjeopgcpffkcaa
set_option maxRecDepth 100000
open Go.RowKit

/-- All that lies in w is as it was. -/
abbrev From (w : World) : World → Prop := fun w' => Below w.heap.size w w'

theorem anyH_mono {P : Program} {md : Region.Mode} {ops : Array Oper} {Q : Exit → Act → World → Prop} {S S' : World → Prop} (hs : ∀ w, S' w → S w) :
    ∀ (fuel : Nat) (listed : Array Bool) (a : Act) (w : World), wpAnyH P md ops Q S' fuel listed a w → wpAnyH P md ops Q S fuel listed a w
  | 0, _, _, _, h => h
  | fuel + 1, _, _, _, h => ⟨h.1, fun i hi => wpOp_mono (fun a' w' h' => ⟨hs _ h'.1, anyH_mono hs fuel _ a' w' h'.2⟩) (h.2 i hi)⟩

theorem drop_nth {l : List Oper} {i : Nat} {o : Oper} {rest : List Oper} (h : l.drop i = o :: rest) : l.toArray[i]? = some o := by
  have : (l.drop i)[0]? = some o := by rw [h]; rfl
  simpa using this

section
variable {P : Program} {md : Region.Mode} {l : List Oper} {Q : Exit → Act → World → Prop} {fuel : Nat} {listed : Array Bool} {a : Act} {w : World} {i : Nat} {o : Oper} {rest : List Oper}

/-- It begins. -/
theorem reg_begin {id : Nat} (hm : P.follows .mixedOrders = true) (h : ∀ w', Below w.heap.size w w' → w'.heap.size = w.heap.size → wpAnyH P .any l.toArray Q (From w') l.length (Array.replicate l.length false) a w') : (Code.region id l.toArray true).wp P Q a w :=
  wp_region_held_drew (S := From w.drew) hm (Below.refl _ _) fun _ => by
    have := h w.drew ((Below.refl _ _).drew) rfl
    simpa using this

/-- An operation that only reads is taken first. -/
theorem reg_take {v : Value} (hi : l.drop i = o :: rest) (hs : Region.noSelect l.toArray = true) (hf : Region.free md l.toArray listed i = true) (hr : (Region.ready md l.toArray listed).contains i = true)
    (hQ : ∀ c a w, Q (.panic c) (a.put o.dst v) w → Q (.panic c) a w) (hw : Region.wanted o (yielded l.toArray a.tmps) = true) (hy : ∀ w', Below w.heap.size w w' → (execOp a.eval o).run P w' = .ok (.value v) w')
    (h : wpAnyH P md l.toArray Q (From w) fuel (listed.setIfInBounds i true) (a.put o.dst v) w) : wpAnyH P md l.toArray Q (From w) (fuel + 1) listed a w :=
  wpAnyH_take (drop_nth hi) hs hf hr hQ (Or.inl ⟨hw, hy⟩) (Below.refl _ _) h

/-- An operation that is not wanted is passed over. -/
theorem reg_skip (hi : l.drop i = o :: rest) (hs : Region.noSelect l.toArray = true) (hf : Region.free md l.toArray listed i = true) (hr : (Region.ready md l.toArray listed).contains i = true)
    (hQ : ∀ c a w, Q (.panic c) (a.put o.dst undef) w → Q (.panic c) a w) (hw : Region.wanted o (yielded l.toArray a.tmps) = false)
    (h : wpAnyH P md l.toArray Q (From w) fuel (listed.setIfInBounds i true) (a.put o.dst undef) w) : wpAnyH P md l.toArray Q (From w) (fuel + 1) listed a w :=
  wpAnyH_take (drop_nth hi) hs hf hr hQ (Or.inr ⟨hw, rfl⟩) (Below.refl _ _) h

/-- A call that alone may come up is made. -/
theorem reg_call (hi : l.drop i = o :: rest) (hr : Region.ready md l.toArray listed = [i])
    (h : ∀ K' : Act → World → Prop, Shut (∀ a w', Below w.heap.size w w' → wpAnyH P md l.toArray Q (From w') fuel (listed.setIfInBounds i true) a w' → K' a w') → if Region.wanted o (yielded l.toArray a.tmps) = true then Oper.wp P o a w K' Q else K' (a.put o.dst undef) w) :
    wpAnyH P md l.toArray Q (From w) (fuel + 1) listed a w :=
  wpAnyH_ready hr (by simp) (AllReadyH.cons (drop_nth hi) (fun K' hK => h K' (fun a w' hb hn => hK.out a w' hb fun _ => anyH_mono (fun w'' (h'' : Below w'.heap.size w' w'') => hb.trans (h''.mono hb.size)) _ _ _ _ hn)) AllReadyH.nil)

/-- It ends. -/
theorem reg_end {n : Nat} (hr : Region.ready md l.toArray listed = []) (h : Q .normal a w) : wpAnyH P md l.toArray Q (From w) n listed a w := wpAnyH_done hr h n
end
end Go.Proofs.Ytnjeopgcpffkcaa

namespace Go.Proofs.Ytnjeopgcpffkcaa
set_option maxRecDepth 100000
open Go.RowKit

section
variable {P : Program} {md : Region.Mode} {l : List Oper} {Q : Exit → Act → World → Prop} {S : World → Prop} {fuel : Nat} {listed : Array Bool} {a : Act} {w : World} {i j : Nat} {o o' : Oper} {rest rest' : List Oper}

/-- It begins. -/
theorem regS_begin (S : World → Prop) {id : Nat} (hm : P.follows .mixedOrders = true) (hS : S w.drew) (h : wpAnyH P .any l.toArray Q S l.length (Array.replicate l.length false) a w.drew) : (Code.region id l.toArray true).wp P Q a w :=
  wp_region_held_drew hm hS fun _ => by simpa using h
/-- An operation that answers the same wherever S holds is taken first. -/
theorem regS_take {v : Value} (hi : l.drop i = o :: rest) (hs : Region.noSelect l.toArray = true) (hf : Region.free md l.toArray listed i = true) (hr : (Region.ready md l.toArray listed).contains i = true)
    (hQ : ∀ c a w, Q (.panic c) (a.put o.dst v) w → Q (.panic c) a w) (hw : Region.wanted o (yielded l.toArray a.tmps) = true) (hS : S w) (hy : ∀ w', S w' → (execOp a.eval o).run P w' = .ok (.value v) w')
    (h : wpAnyH P md l.toArray Q S fuel (listed.setIfInBounds i true) (a.put o.dst v) w) : wpAnyH P md l.toArray Q S (fuel + 1) listed a w :=
  wpAnyH_take (drop_nth hi) hs hf hr hQ (Or.inl ⟨hw, hy⟩) hS h
/-- One that alone may come up is carried out. -/
theorem regS_do (hi : l.drop i = o :: rest) (hr : Region.ready md l.toArray listed = [i])
    (h : ∀ K' : Act → World → Prop, Shut (∀ a w', S w' → wpAnyH P md l.toArray Q S fuel (listed.setIfInBounds i true) a w' → K' a w') → if Region.wanted o (yielded l.toArray a.tmps) = true then Oper.wp P o a w K' Q else K' (a.put o.dst undef) w) :
    wpAnyH P md l.toArray Q S (fuel + 1) listed a w :=
  wpAnyH_ready hr (by simp) (AllReadyH.cons (drop_nth hi) (fun K' hK => h K' (fun a w' hS hn => hK.out a w' hS fun _ => hn)) AllReadyH.nil)
/-- One of two that may come up is. -/
theorem regS_two (hi : l.drop i = o :: rest) (hj : l.drop j = o' :: rest') (hr : Region.ready md l.toArray listed = [i, j])
    (h : ∀ K' : Act → World → Prop, Shut (∀ a w', S w' → wpAnyH P md l.toArray Q S fuel (listed.setIfInBounds i true) a w' → K' a w') → if Region.wanted o (yielded l.toArray a.tmps) = true then Oper.wp P o a w K' Q else K' (a.put o.dst undef) w)
    (h' : ∀ K' : Act → World → Prop, Shut (∀ a w', S w' → wpAnyH P md l.toArray Q S fuel (listed.setIfInBounds j true) a w' → K' a w') → if Region.wanted o' (yielded l.toArray a.tmps) = true then Oper.wp P o' a w K' Q else K' (a.put o'.dst undef) w) :
    wpAnyH P md l.toArray Q S (fuel + 1) listed a w :=
  wpAnyH_ready hr (by simp) (AllReadyH.cons (drop_nth hi) (fun K' hK => h K' (fun a w' hS hn => hK.out a w' hS fun _ => hn)) (AllReadyH.cons (drop_nth hj) (fun K' hK => h' K' (fun a w' hS hn => hK.out a w' hS fun _ => hn)) AllReadyH.nil))
theorem regS_end {n : Nat} (hr : Region.ready md l.toArray listed = []) (h : Q .normal a w) : wpAnyH P md l.toArray Q S n listed a w := wpAnyH_done hr h n
end

/-- The same memory. -/
theorem Whole.of_heap {w w' : World} {g : Nat} {t : TypeId} {cs : Array Value} (h : Whole w g t cs) (hh : w'.heap = w.heap) : Whole w' g t cs := by rw [Whole, hh]; exact h
theorem BytesAt.of_heap {w w' : World} {v : Value} {l : List UInt8} (h : BytesAt w v l) (hh : w'.heap = w.heap) : BytesAt w' v l := h.keep fun _ _ _ _ => by rw [hh]
/-- One that changes no memory at all, in the text's order. -/
theorem still_all {P : Program} {id : Nat} {l : List Oper} {Q : Exit → Act → World → Prop} {a : Act} {w : World} (hm : P.follows .mixedOrders = true) (hB : Region.lexB .any l.toArray = true)
    (h : ∀ w', w'.heap = w.heap → Below w.heap.size w w' → wpStill P l.toArray w' (fun a' => Q .normal a' w') l a) : (Code.region id l.toArray true).wp P Q a w :=
  wp_region_still_lit hm hB (h _ rfl (Below.refl _ _).drew)
/-- One whose first n change no memory, and whose others come one behind the other. -/
theorem still_tail {P : Program} {id : Nat} {l : List Oper} {Q : Exit → Act → World → Prop} {a : Act} {w : World} (n : Nat) (hm : P.follows .mixedOrders = true) (hB : Region.lexTailB .any l.toArray n = true)
    (h : ∀ w', w'.heap = w.heap → Below w.heap.size w w' → wpStill P l.toArray w' (fun a' => wpList P l.toArray Q (l.drop n) a' w') (l.take n) a) : (Code.region id l.toArray true).wp P Q a w :=
  wp_region_still_tail n hm hB (h _ rfl (Below.refl _ _).drew)

section
variable {P : Program} {ops : Array Oper} {rest : List Oper} {o : Oper} {a : Act} {w : World} {Q : Exit → Act → World → Prop} {K : Act → World → Prop}

theorem wp_box_row (t : TypeId) (x : Operand) (ho : o.op = .box t x) (cs : Array Value) (hx : a.eval x = .agg cs)
    (h : ∀ w', Below w.heap.size w w' → Whole w' w.heap.size t cs → w'.heap.size = w.heap.size + 1 → K (a.put o.dst (.pointer (some ⟨w.heap.size, 0, none⟩))) w') : o.wp P a w K Q := by
  have := h (w.alloc (.cells cs t)) ((Below.refl _ _).alloc (Nat.le_refl _) _) (Whole.new w t cs) (by simp)
  unfold Oper.wp execOp
  simpa [ho, hx, Instr.box, newVar, newRow, Value.cells, Oper.upon] using this
/-- A variable with an array's value. -/
theorem wpList_box_row (hgd : o.guard = none) (t : TypeId) (x : Operand) (ho : o.op = .box t x) (cs : Array Value) (hx : a.eval x = .agg cs)
    (h : ∀ w', Below w.heap.size w w' → Whole w' w.heap.size t cs → w'.heap.size = w.heap.size + 1 → wpList P ops Q rest (a.put o.dst (.pointer (some ⟨w.heap.size, 0, none⟩))) w') : wpList P ops Q (o :: rest) a w :=
  wpList_plain hgd fun _ hK => wp_box_row t x ho cs hx fun w' h1 h2 h3 => hK _ _ (h w' h1 h2 h3)

theorem wp_alloc_row (t : TypeId) (ho : o.op = .alloc t) (cs : Array Value) (hz : (P.info? t).map (·.zero) = some (some (.agg cs)))
    (h : ∀ w', Below w.heap.size w w' → Whole w' w.heap.size t cs → w'.heap.size = w.heap.size + 1 → K (a.put o.dst (.pointer (some ⟨w.heap.size, 0, none⟩))) w') : o.wp P a w K Q := by
  have hh := h (w.alloc (.cells cs t)) ((Below.refl _ _).alloc (Nat.le_refl _) _) (Whole.new w t cs) (by simp)
  cases hq : P.info? t with
  | none => simp [hq] at hz
  | some i =>
    have hz' : i.zero = some (.agg cs) := by simpa [hq] using hz
    unfold Oper.wp execOp
    simpa [ho, Instr.alloc, zeroValue, typeInfo, hq, hz', newVar, newRow, Value.cells, Oper.upon] using hh
/-- A variable of an array's type. -/
theorem wpList_alloc_row (hgd : o.guard = none) (t : TypeId) (ho : o.op = .alloc t) (cs : Array Value) (hz : (P.info? t).map (·.zero) = some (some (.agg cs)))
    (h : ∀ w', Below w.heap.size w w' → Whole w' w.heap.size t cs → w'.heap.size = w.heap.size + 1 → wpList P ops Q rest (a.put o.dst (.pointer (some ⟨w.heap.size, 0, none⟩))) w') : wpList P ops Q (o :: rest) a w :=
  wpList_plain hgd fun _ hK => wp_alloc_row t ho cs hz fun w' h1 h2 h3 => hK _ _ (h w' h1 h2 h3)

theorem grown_setRow (w : World) (g : Nat) (cs : Array Value) : w.grownBy (w.setRow g cs) (some g) :=
  ⟨rfl, rfl, rfl, by simp, fun k _ hne => setRow_other w g k cs (fun e => hne (by rw [e]))⟩
theorem Whole.setRow {w : World} {g : Nat} {t : TypeId} {old cs : Array Value} (h : Whole w g t old) : Whole (w.setRow g cs) g t cs := setRow_heap w g old cs t (0, 0) h

theorem wp_store_whole (ty : TypeId) (x y : Operand) (ho : o.op = .store ty x y)
    (g : Nat) (cells : Array Value) (hx : a.eval x = .pointer (some ⟨g, 0, none⟩)) (hy : a.eval y = .agg cells) (t : TypeId) (old : Array Value) (hg : Whole w g t old) (hi : (P.info? ty).map (·.size) = some cells.size)
    (hold : old.size = cells.size) (h1 : cells.all (·.oneCell') = true)
    (h : ∀ w', w.grownBy w' (some g) → Whole w' g t cells → w'.heap.size = w.heap.size → K (a.put o.dst undef) w') : o.wp P a w K Q :=
  wp_store_row ty x y ho g cells hx hy t old hg hi hold h1 (h _ (grown_setRow w g cells) hg.setRow (by simp))
/-- An array stored into a variable. -/
theorem wpList_store_whole (hgd : o.guard = none) (ty : TypeId) (x y : Operand) (ho : o.op = .store ty x y)
    (g : Nat) (cells : Array Value) (hx : a.eval x = .pointer (some ⟨g, 0, none⟩)) (hy : a.eval y = .agg cells) (t : TypeId) (old : Array Value) (hg : Whole w g t old) (hi : (P.info? ty).map (·.size) = some cells.size)
    (hold : old.size = cells.size) (h1 : cells.all (·.oneCell') = true)
    (h : ∀ w', w.grownBy w' (some g) → Whole w' g t cells → w'.heap.size = w.heap.size → wpList P ops Q rest (a.put o.dst undef) w') : wpList P ops Q (o :: rest) a w :=
  wpList_plain hgd fun _ hK => wp_store_whole ty x y ho g cells hx hy t old hg hi hold h1 fun w' p q r => hK _ _ (h w' p q r)
end
end Go.Proofs.Ytnjeopgcpffkcaa

namespace Go.Proofs.Ytnjeopgcpffkcaa
set_option maxRecDepth 100000
open Go.RowKit

set_option maxHeartbeats 400000 in
theorem fits_yes (n : Int) (w : World) (h1 : 1 ≤ n) (h2 : n ≤ 8) :
    Calls Try.prog 56 #[.int .i64 n] w fun e w' => e = .returned (.bool true) ∧ w = w' := by
  go_enter Try.func56, Try.ntmps56
  go_wp2
  go_ret
  exact ⟨rfl, rfl⟩

set_option maxHeartbeats 400000 in
theorem put_num (base : Nat) (v : Value) (l : List UInt8) (x size : Nat) (w : World) (h1 : 1 ≤ size) (h8 : size ≤ 8)
    (hown : w.ownsRow base 5 1 v l.length (bv l)) (hb : base ≤ w.heap.size) (hl : l.length ≤ 1000000) :
    Calls Try.prog 25 #[v, .int .u64 x, .int .i64 size] w fun e w' =>
      ∃ v', e = .returned v' ∧ w'.ownsRow base 5 1 v' (l.length + size) (bv (l ++ be size x)) ∧ Below base w w' := by
  obtain ⟨i0, hi0, hz0, hz1, hz2⟩ := info_parts byte_info
  go_enter Try.func25, Try.ntmps25
  go_wp2_with fail
  refine (fits_yes _ _ (by omega) (by omega)).mono ?_
  rintro e w1 ⟨rfl, rfl⟩
  go_wp2_with fail
  have Hown := Lib.hid hown
  clear hown
  go_loopw [0, 13] (fun u i wr => ∃ k : Nat, k ≤ size ∧ i = .int .i64 k ∧ wr.ownsRow base 5 1 u (l.length + k) (bv (l ++ beTo size x k)) ∧ Below base w wr) (fun _ i _ => size - (intOf i).toNat)
  case atStart => exact ⟨0, Nat.zero_le _, rfl, by simpa [beTo] using Hown.out, Below.refl _ _⟩
  case round =>
    obtain ⟨k, hk, rfl, ho, hbel⟩ := hrel
    have hbs := hbel.size
    by_cases hlt : k < size
    · go_wp2_with (at_builtin; refine wpList_append_own _ rfl (.tmp 16) (.tmp 25) 33 rfl base 5 i0 (.int .u8 0) 1 1 Try.underlying33 hi0 hz0 hz1 hz2 rfl (by decide) _ (l.length + k) _ rfl (ho.alloc _) ⟨wr.heap.size, 0, none⟩ 1 1 [.int .u8 ((x : Int) / 2 ^ (8 * (size - 1 - k)) % 256)] rfl rfl ?c1 ?c2 ?c3 ?c4 ?c5 ?_)
      case c1 => exact cell_one_new _ _ _
      case c2 => intro u hu; simp at hu; subst hu; rfl
      case c3 => simp only [maxLen]; omega
      case c4 => omega
      case c5 => simp; omega
      intro v' w1 ho' hg _
      have hr := (ho.alloc (.cells #[.int .u8 ((x : Int) / 2 ^ (8 * (size - 1 - k)) % 256)] 5)).lt
      have hbel' : Below base w w1 := (hbel.alloc (by omega) _).grown hg (by simp; omega) (fun g hg => (hr g hg).1)
      have ho2 : w1.ownsRow base 5 1 v' (l.length + (k + 1)) (bv (l ++ beTo size x (k + 1))) := by
        rw [beTo, ← List.append_assoc, bv_append, beAt_cell]
        exact ho'
      have HO := Lib.hid ho2
      clear ho2 ho' hg ho hr
      go_wp2
      go_roundw
      case rel => exact ⟨k + 1, by omega, by go_num, HO.out, hbel'⟩
      case measure => simp [intOf]; omega
    · obtain rfl : k = size := by omega
      have HO := Lib.hid ho
      clear ho
      go_wp2
      go_ret
      exact ⟨_, rfl, HO.out, hbel⟩

theorem be_eq (size x : Nat) : be size x = (List.range size).map (beAt size x) := by
  have h : ∀ k, beTo size x k = (List.range k).map (beAt size x) := by
    intro k
    induction k with
    | zero => rfl
    | succ k ih => rw [beTo, ih, List.range_succ, List.map_append]; rfl
  exact h size
theorem be_succ (j x : Nat) : be (j + 1) x = UInt8.ofNat (x / 256 ^ j % 256) :: be j x := by
  rw [be_eq, be_eq, List.range_succ_eq_map, List.map_cons, List.map_map]
  congr 1
  · simp only [beAt]
    rw [show (256 : Nat) = 2 ^ 8 from rfl, ← Nat.pow_mul]
    simp
  · apply List.map_congr_left
    intro i _
    simp only [Function.comp, beAt]
    have : j + 1 - 1 - i.succ = j - 1 - i := by omega
    rw [this]

/-- The bytes while the number is written from its end. -/
def midN (l : List UInt8) (size x j : Nat) : List UInt8 := l ++ (List.replicate (size - j) 0 ++ be j x)
theorem midN_length (l : List UInt8) (size x j : Nat) (h : j ≤ size) : (midN l size x j).length = l.length + size := by
  simp [midN, be_length]; omega
theorem midN_zero (l : List UInt8) (size x : Nat) : midN l size x 0 = l ++ List.replicate size 0 := by simp [midN, be, beTo]
theorem midN_all (l : List UInt8) (size x : Nat) : midN l size x size = l ++ be size x := by simp [midN]
theorem midN_set (l : List UInt8) (size x j : Nat) (h : j < size) :
    (bv (midN l size x j)).set (l.length + size - 1 - j) (.int .u8 (((x / 256 ^ j % 256 : Nat)) : Int)) = bv (midN l size x (j + 1)) := by
  have e1 : size - j = (size - (j + 1)) + 1 := by omega
  rw [midN, midN, be_succ, e1, List.replicate_succ']
  simp only [bv, List.map_append, List.map_cons, List.map_nil, List.append_assoc]
  have e2 : l.length + size - 1 - j = (l.map fun c => Value.int .u8 (c.toNat : Int)).length + (size - (j + 1)) := by simp; omega
  rw [e2, List.set_append_right _ _ (by omega), Nat.add_sub_cancel_left]
  congr 1
  rw [List.set_append_right _ _ (by simp)]
  simp

set_option maxHeartbeats 1000000 in
theorem ref_num_put (A : Option Addr) (l : List UInt8) (cap x size : Nat) (w : World) (hb : BytesAt w (.slice A l.length cap) l) (h1 : 1 ≤ size) (h8 : size ≤ 8) (hl : l.length ≤ 3000) (hx : x < 18446744073709551616) :
    Calls Try.prog 29 #[.slice A l.length cap, .int .u64 x, .int .i64 size] w fun e w' =>
      ∃ v', e = .returned v' ∧ w'.ownsRow w.heap.size 5 1 v' (l ++ be size x).length (bv (l ++ be size x)) ∧ Below w.heap.size w w' := by
  have HB := Lib.hid hb
  have HX := Lib.hid hx
  clear hb hx
  obtain ⟨i0, hi0, hz0, hz1, hz2⟩ := info_parts byte_info
  have d1 : decide ((size : Int) < 1) = false := by simp; omega
  have d8 : decide ((8 : Int) < (size : Int)) = false := by simp; omega
  go_enter Try.func29, Try.ntmps29
  go_wp2_with (at_builtin; refine wpList_append_bytes rfl (.tmp 17) (.tmp 18) rfl w.heap.size _ 0 [] rfl (own_empty w) _ l rfl ?c1 ?c2 ?c3 ?_)
  case c1 => exact HB.out.below ((Below.refl _ _).alloc (Nat.le_refl _) _)
  case c2 => omega
  case c3 => simp
  intro v1 w1 ho1 hg1
  have hb1 : Below w.heap.size w w1 := ((Below.refl _ _).alloc (Nat.le_refl _) _).grown hg1 (by simp) (fun k hk => by simp [Value.ownBlock] at hk; omega)
  have HO1 := Lib.hid ho1
  have HB1 := Lib.hid hb1
  clear ho1 hg1 hb1
  go_wp2_with fail
  go_loopw [7, 8] (fun u i wr => ∃ k : Nat, k ≤ size ∧ i = .int .i64 k ∧ wr.ownsRow w.heap.size 5 1 u (l.length + k) (bv (l ++ List.replicate k 0)) ∧ Below w.heap.size w wr) (fun _ i _ => size - (intOf i).toNat)
  case atStart => exact ⟨0, Nat.zero_le _, rfl, by simpa using HO1.out, HB1.out⟩
  case round =>
    obtain ⟨k, hk, rfl, ho, hbel⟩ := hrel
    have HO := Lib.hid ho
    have HBe := Lib.hid hbel
    have zr := hbel.size
    clear ho hbel
    by_cases hlt : k < size
    · go_wp2_with (at_builtin; refine wpList_append_own _ rfl (.tmp 25) (.tmp 26) 33 rfl w.heap.size 5 i0 (.int .u8 0) 1 1 Try.underlying33 hi0 hz0 hz1 hz2 rfl (by decide) _ (l.length + k) _ rfl (HO.out.alloc _) ⟨wr.heap.size, 0, none⟩ 1 1 [.int .u8 0] rfl rfl ?c1 ?c2 ?c3 ?c4 ?c5 ?_)
      case c1 => exact cell_one_new _ _ _
      case c2 => intro u hu; simp at hu; subst hu; rfl
      case c3 => simp only [maxLen]; omega
      case c4 => omega
      case c5 => simp; omega
      intro v' w2 ho' hg _
      have hr := (HO.out.alloc (.cells #[.int .u8 0] 5)).lt
      have hbel' : Below w.heap.size w w2 := (HBe.out.alloc (by omega) _).grown hg (by simp; omega) (fun g hg => (hr g hg).1)
      have ho2 : w2.ownsRow w.heap.size 5 1 v' (l.length + (k + 1)) (bv (l ++ List.replicate (k + 1) 0)) := by
        rw [List.replicate_succ', ← List.append_assoc, bv_append]
        exact ho'
      have HO2 := Lib.hid ho2
      have HB2 := Lib.hid hbel'
      clear ho2 ho' hg hr hbel'
      go_wp2
      go_roundw
      case rel => exact ⟨k + 1, by omega, by go_num, HO2.out, HB2.out⟩
      case measure => simp [intOf]; omega
    · obtain rfl : k = size := by omega
      obtain ⟨g, capg, hv, hgb, hgl⟩ := HO.out.form (by omega)
      obtain rfl := hv
      have HOa := Lib.hid (by have q := HO.out; rw [← midN_zero l k x] at q; exact q)
      have HBa := HBe
      obtain ⟨wa, rfl⟩ : ∃ wa : World, wa = wr := ⟨_, rfl⟩
      clear HO HBe hlt hk HO1 HB1
      go_wp2_with fail
      go_loopw [9, 1] (fun i y wr => ∃ j : Nat, j ≤ k ∧ i = .int .i64 ((l.length : Int) + k - 1 - j) ∧ y = .int .u64 ((x / 256 ^ j : Nat) : Int) ∧ wr.ownsRow w.heap.size 5 1 (.slice (some ⟨g, 0, none⟩) (l.length + k) capg) (l.length + k) (bv (midN l k x j)) ∧ Below w.heap.size w wr) (fun i _ _ => (intOf i + 1 - l.length).toNat)
      case atStart => exact ⟨0, Nat.zero_le _, by go_num, by simp, HOa.out, HBa.out⟩
      case round =>
        obtain ⟨j, hj, rfl, rfl, ho, hbel⟩ := hrel
        have HO := Lib.hid ho
        have HBe := Lib.hid hbel
        have zr := hbel.size
        clear ho hbel
        by_cases hlt : j < k
        · have c0 := HO.out.cellAt (l.length + k - 1 - j) (by omega)
          have f0 := HO.out.frozenAt (l.length + k - 1 - j)
          have hlen : l.length + k - 1 - j < (bv (midN l k x j)).length := by rw [bv_length, midN_length _ _ _ _ hj]; omega
          rw [List.getElem?_eq_getElem hlen] at c0
          generalize (bv (midN l k x j))[l.length + k - 1 - j] = old at c0
          have HS := Lib.hid (midN_set l k x j hlt)
          have HW : Hid (IntKind.u64.wrap (((x / 256 ^ j : Nat) : Int) / 256) = ((x / 256 ^ (j + 1) : Nat) : Int)) := by
            have e1 : x / 256 ^ (j + 1) = x / 256 ^ j / 256 := by rw [Nat.div_div_eq_div_mul, Nat.pow_succ]
            have e2 : x / 256 ^ j < 18446744073709551616 := Nat.lt_of_le_of_lt (Nat.div_le_self _ _) HX.out
            show IntKind.u64.wrap (((x / 256 ^ j : Nat) : Int) / 256) = ((x / 256 ^ (j + 1) : Nat) : Int)
            rw [e1, IntKind.wrap_u64]
            generalize x / 256 ^ j = y at *
            omega
          have HE : Hid (((x / 256 ^ j % 256 : Nat) : Int) = ((x / 256 ^ j : Nat) : Int) % 256) := Int.natCast_emod _ _
          clear hlen
          generalize x / 256 ^ j = y at *
          go_wp2_with fail
          refine ⟨⟨j + 1, by omega, by congr 1; omega, by rw [HW.out], ?_, HBe.out.setCell (by exact hgb) _⟩, by simp [intOf]; omega⟩
          have q := HO.out.stored (l.length + k - 1 - j) (.int .u8 ((y : Int) % 256))
          rw [← HE.out, HS.out] at q
          rw [← HE.out]
          exact q.1
        · obtain rfl : j = k := by omega
          have ho := HO.out
          rw [midN_all] at ho
          have HO2 : Hid (wr.ownsRow w.heap.size 5 1 (.slice (some ⟨g, 0, none⟩) (l.length + j) capg) (l ++ be j x).length (bv (l ++ be j x))) := by
            rw [List.length_append, be_length]; exact ho
          clear ho HO
          go_wp2
          go_ret
          exact ⟨_, rfl, HO2.out, HBe.out⟩

set_option maxHeartbeats 400000 in
theorem ref_num_put_not (v : Value) (x n : Int) (w : World) (h : n < 1 ∨ 8 < n) :
    Calls Try.prog 29 #[v, .int .u64 x, .int .i64 n] w fun e w' => e = .returned v ∧ w = w' := by
  by_cases h1 : n < 1
  · have d1 : decide (n < 1) = true := by simpa using h1
    go_enter Try.func29, Try.ntmps29
    go_wp2
    go_ret
    exact ⟨rfl, rfl⟩
  · have d1 : decide (n < 1) = false := by simpa using h1
    have d8 : decide (8 < n) = true := by simp; omega
    go_enter Try.func29, Try.ntmps29
    go_wp2
    go_ret
    exact ⟨rfl, rfl⟩
end Go.Proofs.Ytnjeopgcpffkcaa
