/- Bytes copied into a block from a place on; rows of slices made as one. What math/bits.RotateLeft32, and package cipher's Quarter and fit answer. Plain mathematics of package cipher, as the package goes about it: bytes laid into words, a block's bytes one by one, how far a message has been changed. Arrays by value: words and bytes stored into their places; shifts by numbers of type int. -/
import Derived.Test.YtmnhpkdldeifgaaDoorGl
import Derived.Test.YtmnhpkdldeifgaaDoorGt
import Derived.Test.YtmnhpkdldeifgaaDoorGi
import Derived.Test.YtmnhpkdldeifgaaDoorGb
import Derived.Test.YtmnhpkdldeifgaaDoorGj
import Derived.Test.YtmnhpkdldeifgaaDoorGg
namespace Go.Proofs.YtmnhpkdldeifgaaDoor
set_option maxRecDepth 100000
open Go.RowKit

/-- Bytes copied into a block, from a place on. -/
theorem run_copy_at (w : World) (ty : TypeId) (g off n cap : Nat) (t : TypeId) (L : List UInt8) (src : Value) (l : List UInt8) (hg : Whole w g t (bv L).toArray) (hL : L.length = off + n) (hs : BytesAt w src l) (m : Nat) (hmn : m = min l.length n) :
    ∃ w', (Builtin.copy_ #[25, 25] ty #[.slice (some ⟨g, off, none⟩) n cap, src]).run Tryd.prog w = .ok (goInt (m : Int)) w' ∧ Whole w' g t (bv (L.take off ++ l.take n ++ L.drop (off + m))).toArray ∧ w.grownBy w' (some g) ∧ w'.heap.size = w.heap.size := by
  have bs : (Tryd.prog.info? 5).map (·.size) = some 1 := by kernel_rfl
  subst hmn
  obtain ⟨A, c, rfl, -, hc⟩ := hs
  by_cases h0 : min l.length n = 0
  · have q := run_copy_none (P := Tryd.prog) w 25 25 ty 5 (some ⟨g, off, none⟩) A n cap l.length c Tryd.underlying25 bs h0
    have e : L.take off ++ l.take n ++ L.drop (off + min l.length n) = L := by
      rw [h0]
      have : l.take n = [] := by
        apply List.eq_nil_of_length_eq_zero
        rw [List.length_take]
        omega
      rw [this, List.append_nil, Nat.add_zero, List.take_append_drop]
    refine ⟨w, ?_, by rw [e]; exact hg, grown_same w g, rfl⟩
    rw [h0]
    exact q
  · obtain ⟨ad, rfl, hcell⟩ := hc (by intro e; subst e; simp at h0)
    have hm : (bv (l.take n)).length = Nat.min l.length n := by rw [bv_length, List.length_take, Nat.min_comm]
    have q := run_copy_row (P := Tryd.prog) w 25 25 ty 5 g off n cap ad l.length c (bv L).toArray t (bv (l.take n)) Tryd.underlying25 bs hg hm (fun j v hj => by
      simp only [bv, List.getElem?_map, Option.map_eq_some_iff] at hj
      obtain ⟨x, hx, rfl⟩ := hj
      have hjn : j < n := by
        have := (List.getElem?_eq_some_iff.1 hx).1
        rw [List.length_take] at this
        omega
      rw [List.getElem?_take_of_lt hjn] at hx
      exact hcell j x hx) (by simp [bv_length]; omega) (bv_one _)
    rw [hm] at q
    refine ⟨_, q, ?_, grown_setRow w g _, by simp⟩
    have q2 := hg.setRow (cs := ((bv L).toArray.toList.take off ++ bv (l.take n) ++ (bv L).toArray.toList.drop (off + Nat.min l.length n)).toArray)
    have e : bv (L.take off ++ l.take n ++ L.drop (off + min l.length n)) = (bv L).toArray.toList.take off ++ bv (l.take n) ++ (bv L).toArray.toList.drop (off + Nat.min l.length n) := by
      rw [bv_append, bv_append]
      simp only [bv, List.map_drop, List.map_take]
    rw [e]
    exact q2

theorem parts4_at (w : World) (t : TypeId) (v0 v1 v2 v3 : Value) (l0 l1 l2 l3 : List UInt8) (h0 : BytesAt w v0 l0) (h1 : BytesAt w v1 l1) (h2 : BytesAt w v2 l2) (h3 : BytesAt w v3 l3) :
    PartsAt (w.alloc (.cells #[v0, v1, v2, v3] t)) w.heap.size [l0, l1, l2, l3] := by
  have b : Below w.heap.size w (w.alloc (.cells #[v0, v1, v2, v3] t)) := (Below.refl _ _).alloc (Nat.le_refl _) _
  have y := Whole.new w t #[v0, v1, v2, v3]
  generalize w.alloc (.cells #[v0, v1, v2, v3] t) = w' at *
  refine ⟨y.lt, fun k l hk => ?_⟩
  have c := y.at_ k
  have k0 := h0.below b
  have k1 := h1.below b
  have k2 := h2.below b
  have k3 := h3.below b
  match k, hk, c with
  | 0, hk, c =>
    obtain rfl : l0 = l := by simpa using hk
    obtain ⟨A, cap, rfl, -, -⟩ := id h0
    exact ⟨A, cap, c, k0⟩
  | 1, hk, c =>
    obtain rfl : l1 = l := by simpa using hk
    obtain ⟨A, cap, rfl, -, -⟩ := id h1
    exact ⟨A, cap, c, k1⟩
  | 2, hk, c =>
    obtain rfl : l2 = l := by simpa using hk
    obtain ⟨A, cap, rfl, -, -⟩ := id h2
    exact ⟨A, cap, c, k2⟩
  | 3, hk, c =>
    obtain rfl : l3 = l := by simpa using hk
    obtain ⟨A, cap, rfl, -, -⟩ := id h3
    exact ⟨A, cap, c, k3⟩
  | k + 4, hk, c => simp at hk
end Go.Proofs.YtmnhpkdldeifgaaDoor

namespace Go.Proofs.YtmnhpkdldeifgaaDoor
set_option maxRecDepth 100000
open Go.RowKit

theorem left_16 (x : UInt32) (w : World) : Calls Tryd.prog 72 #[wd x, .int .i64 16] w fun e w' => e = .returned (wd (rotl x 16)) ∧ w = w' := by
  obtain ⟨-, -, -, r4, -⟩ := rules_w
  have s1 := run_shl 16 (by decide) 16 rfl
  have s2 := run_shr 16 (by decide) 16 rfl
  have hb : bits .and .u64 16 31 = 16 := by decide
  go_enter Tryd.func72, Tryd.ntmps72
  go_wp2
  go_ret
  exact ⟨rfl, rfl⟩
theorem left_12 (x : UInt32) (w : World) : Calls Tryd.prog 72 #[wd x, .int .i64 12] w fun e w' => e = .returned (wd (rotl x 12)) ∧ w = w' := by
  obtain ⟨-, -, -, r4, -⟩ := rules_w
  have s1 := run_shl 12 (by decide) 12 rfl
  have s2 := run_shr 20 (by decide) 20 rfl
  have hb : bits .and .u64 12 31 = 12 := by decide
  go_enter Tryd.func72, Tryd.ntmps72
  go_wp2
  go_ret
  exact ⟨rfl, rfl⟩
theorem left_8 (x : UInt32) (w : World) : Calls Tryd.prog 72 #[wd x, .int .i64 8] w fun e w' => e = .returned (wd (rotl x 8)) ∧ w = w' := by
  obtain ⟨-, -, -, r4, -⟩ := rules_w
  have s1 := run_shl 8 (by decide) 8 rfl
  have s2 := run_shr 24 (by decide) 24 rfl
  have hb : bits .and .u64 8 31 = 8 := by decide
  go_enter Tryd.func72, Tryd.ntmps72
  go_wp2
  go_ret
  exact ⟨rfl, rfl⟩
theorem left_7 (x : UInt32) (w : World) : Calls Tryd.prog 72 #[wd x, .int .i64 7] w fun e w' => e = .returned (wd (rotl x 7)) ∧ w = w' := by
  obtain ⟨-, -, -, r4, -⟩ := rules_w
  have s1 := run_shl 7 (by decide) 7 rfl
  have s2 := run_shr 25 (by decide) 25 rfl
  have hb : bits .and .u64 7 31 = 7 := by decide
  go_enter Tryd.func72, Tryd.ntmps72
  go_wp2
  go_ret
  exact ⟨rfl, rfl⟩

set_option maxHeartbeats 1000000 in
theorem quarter_any (a b c d : UInt32) (w : World) :
    Calls Tryd.prog 69 #[wd a, wd b, wd c, wd d] w fun e w' => e = .returned (.tuple #[wd (quarter a b c d).1, wd (quarter a b c d).2.1, wd (quarter a b c d).2.2.1, wd (quarter a b c d).2.2.2]) ∧ Below w.heap.size w w' := by
  obtain ⟨r1, r2, -, -, -⟩ := rules_w
  go_enter Tryd.func69, Tryd.ntmps69
  go_wp2_with fail
  refine (left_16 _ w).mono ?_
  rintro _ _ ⟨rfl, rfl⟩
  go_wp2_with fail
  refine (left_12 _ w).mono ?_
  rintro _ _ ⟨rfl, rfl⟩
  go_wp2_with fail
  refine (left_8 _ w).mono ?_
  rintro _ _ ⟨rfl, rfl⟩
  go_wp2_with fail
  refine (left_7 _ w).mono ?_
  rintro _ _ ⟨rfl, rfl⟩
  go_wp2_with fail
  refine bodyPost_ret (results_tmp4 rfl _ _ _) rfl ?_
  exact ⟨rfl, Below.refl _ _⟩

theorem fit_any (A0 A1 : Option Addr) (n0 n1 cap0 cap1 : Nat) (w : World) : Calls Tryd.prog 44 #[.slice A0 n0 cap0, .slice A1 n1 cap1] w fun e w' => e = .returned (.bool (decide (n0 = 32 ∧ n1 = 12))) ∧ w = w' := by
  by_cases h0 : n0 = 32
  · subst h0
    by_cases h1 : n1 = 12
    · subst h1
      go_enter Tryd.func44, Tryd.ntmps44
      go_wp2
      go_ret
      exact ⟨rfl, rfl⟩
    · have d1 : ((n1 : Int) == 12) = false := by simp; omega
      have e : decide (32 = 32 ∧ n1 = 12) = false := by simp [h1]
      rw [e]
      go_enter Tryd.func44, Tryd.ntmps44
      go_wp2
      go_ret
      exact ⟨rfl, rfl⟩
  · have d0 : ((n0 : Int) == 32) = false := by simp; omega
    have e : decide (n0 = 32 ∧ n1 = 12) = false := by simp [h0]
    rw [e]
    go_enter Tryd.func44, Tryd.ntmps44
    go_wp2
    go_ret
    exact ⟨rfl, rfl⟩
end Go.Proofs.YtmnhpkdldeifgaaDoor

namespace Go.Proofs.YtmnhpkdldeifgaaDoor
set_option maxRecDepth 100000

/-- So many bytes laid into words, from a place on. -/
def layTo (l : List UInt32) (p : Nat) (b : List UInt8) : Nat → List UInt32
  | 0 => l
  | k + 1 => (layTo l p b k).set (p + k / 4) ((layTo l p b k).getD (p + k / 4) 0 ||| (b.getD k 0).toUInt32 <<< UInt32.ofNat (8 * (k % 4)))
theorem layTo_length (l : List UInt32) (p : Nat) (b : List UInt8) (k : Nat) : (layTo l p b k).length = l.length := by
  induction k with
  | zero => rfl
  | succ k ih => rw [layTo, List.length_set, ih]
theorem getD_set_self (m : List UInt32) (i : Nat) (y : UInt32) (h : i < m.length) : (m.set i y).getD i 0 = y := by simp [List.getD, h]
theorem lword_get (b : List UInt8) (t : Nat) : lword ((b.drop t).take 4) = (b.getD t 0).toUInt32 ||| (b.getD (t + 1) 0).toUInt32 <<< 8 ||| (b.getD (t + 2) 0).toUInt32 <<< 16 ||| (b.getD (t + 3) 0).toUInt32 <<< 24 := by
  simp [lword, List.getD, List.getElem?_drop]
theorem layTo_four (l : List UInt32) (p : Nat) (b : List UInt8) (n : Nat) (hp : p + n < l.length) :
    layTo l p b (4 * n + 4) = (layTo l p b (4 * n)).set (p + n) ((layTo l p b (4 * n)).getD (p + n) 0 ||| lword ((b.drop (4 * n)).take 4)) := by
  have d0 : (4 * n) / 4 = n := by omega
  have d1 : (4 * n + 1) / 4 = n := by omega
  have d2 : (4 * n + 2) / 4 = n := by omega
  have d3 : (4 * n + 3) / 4 = n := by omega
  have m0 : (4 * n) % 4 = 0 := by omega
  have m1 : (4 * n + 1) % 4 = 1 := by omega
  have m2 : (4 * n + 2) % 4 = 2 := by omega
  have m3 : (4 * n + 3) % 4 = 3 := by omega
  have hm : p + n < (layTo l p b (4 * n)).length := by rw [layTo_length]; exact hp
  show layTo l p b (4 * n + 3 + 1) = _
  rw [layTo]
  show List.set (layTo l p b (4 * n + 2 + 1)) _ _ = _
  rw [layTo]
  show List.set (List.set (layTo l p b (4 * n + 1 + 1)) _ _) _ _ = _
  rw [layTo]
  show List.set (List.set (List.set (layTo l p b (4 * n + 0 + 1)) _ _) _ _) _ _ = _
  rw [layTo, lword_get]
  simp only [d0, d1, d2, d3, m0, m1, m2, m3]
  generalize layTo l p b (4 * n) = m at *
  rw [getD_set_self _ _ _ (by simpa using hm), getD_set_self _ _ _ (by simpa using hm), getD_set_self _ _ _ (by simpa using hm), List.set_set, List.set_set, List.set_set]
  congr 1
  simp [UInt32.or_assoc]
theorem layTo_words (l : List UInt32) (p : Nat) (b : List UInt8) (n : Nat) (hn : p + n ≤ l.length) (hz : ∀ i, i < n → l[p + i]? = some 0) : layTo l p b (4 * n) = l.take p ++ lwords b n ++ l.drop (p + n) := by
  induction n with
  | zero => simp [layTo, lwords]
  | succ n ih =>
    have h0 := hz n (by omega)
    have hd : l.drop (p + n) = 0 :: l.drop (p + n + 1) := drop_at h0
    have hl : (l.take p ++ lwords b n).length = p + n := by simp [lwords_length]; omega
    show layTo l p b (4 * n + 4) = _
    rw [layTo_four l p b n (by omega), ih (by omega) (fun i hi => hz i (by omega)), hd]
    have g0 : (l.take p ++ lwords b n ++ 0 :: l.drop (p + n + 1)).getD (p + n) 0 = 0 := by
      rw [List.getD, List.getElem?_append_right (by omega), hl]
      simp
    rw [g0, List.set_append_right _ _ (by omega), hl, Nat.sub_self, lwords_next, UInt32.zero_or]
    simp [Nat.add_assoc]
/-- The words before any byte is laid. -/
def words0 (c : UInt32) : List UInt32 := [1634760805, 857760878, 2036477234, 1797285236, 0, 0, 0, 0, 0, 0, 0, 0, c, 0, 0, 0]
theorem words0_length (c : UInt32) : (words0 c).length = 16 := rfl
theorem laid_words (key nonce : List UInt8) (c : UInt32) : layTo (layTo (words0 c) 4 key 32) 13 nonce 12 = words16C key nonce c := by
  have e1 : layTo (words0 c) 4 key 32 = sigma ++ lwords key 8 ++ [c, 0, 0, 0] := by
    rw [show 32 = 4 * 8 by rfl, layTo_words _ _ _ 8 (by simp [words0]) (by
      intro i hi
      match i, hi with
      | 0, _ => rfl
      | 1, _ => rfl
      | 2, _ => rfl
      | 3, _ => rfl
      | 4, _ => rfl
      | 5, _ => rfl
      | 6, _ => rfl
      | 7, _ => rfl)]
    rfl
  rw [e1, show 12 = 4 * 3 by rfl, layTo_words _ _ _ 3 (by simp [sigma, lwords_length]) (by
    intro i hi
    match i, hi with
    | 0, _ => rfl
    | 1, _ => rfl
    | 2, _ => rfl)]
  rfl
theorem words16C_set (key nonce : List UInt8) (c c' : UInt32) : (words16C key nonce c).set 12 c' = words16C key nonce c' := rfl

theorem lstream_at (l : List UInt32) : ∀ (i : Nat) (x : UInt32), l[i / 4]? = some x → (lstream l)[i]? = some (x >>> UInt32.ofNat (8 * (i % 4))).toUInt8 := by
  induction l with
  | nil => intro i x h; simp at h
  | cons y l ih =>
    intro i x h
    have e : lstream (y :: l) = lbytes y ++ lstream l := by simp [lstream]
    have hb : (lbytes y).length = 4 := rfl
    rcases Nat.lt_or_ge i 4 with hi | hi
    · have e0 : i / 4 = 0 := by omega
      rw [e0] at h
      simp at h
      subst h
      rw [e, List.getElem?_append_left (by omega)]
      match i, hi with
      | 0, _ => simp [lbytes]
      | 1, _ => rfl
      | 2, _ => rfl
      | 3, _ => rfl
    · have e0 : i / 4 = (i - 4) / 4 + 1 := by omega
      have e1 : i % 4 = (i - 4) % 4 := by omega
      rw [e0] at h
      rw [e, List.getElem?_append_right (by omega), hb, e1]
      exact ih (i - 4) x (by simpa using h)
end Go.Proofs.YtmnhpkdldeifgaaDoor

namespace Go.Proofs.YtmnhpkdldeifgaaDoor
set_option maxRecDepth 100000
open Go.RowKit

theorem run_shl_i (k : Nat) (hk : k < 32) (t : TypeId) (x : UInt32) (w : World) : (binOp .shl t (wd x) (.int .i64 (k : Int))).run Tryd.prog w = .ok (wd (x <<< UInt32.ofNat k)) w := by
  have e : binOp .shl t (wd x) (.int .i64 (k : Int)) = binOp .shl t (wd x) (.int .u64 (k : Int)) := by simp [wd, binOp]
  rw [e, wd_shl t x k hk]
  rfl
theorem run_shr_i (k : Nat) (hk : k < 32) (t : TypeId) (x : UInt32) (w : World) : (binOp .shr t (wd x) (.int .i64 (k : Int))).run Tryd.prog w = .ok (wd (x >>> UInt32.ofNat k)) w := by
  have e : binOp .shr t (wd x) (.int .i64 (k : Int)) = binOp .shr t (wd x) (.int .u64 (k : Int)) := by simp [wd, binOp]
  rw [e, wd_shr t x k hk]
  rfl
theorem ba_size (l : List UInt8) : (bv l).toArray.size = l.length := by simp [bv]
theorem ba_at (l : List UInt8) (i : Nat) (c : UInt8) (h : l[i]? = some c) : (bv l).toArray[i]? = some (.int .u8 (c.toNat : Int)) := by simp [bv, h]
theorem ba_set (l : List UInt8) (i : Nat) (c : UInt8) : (bv l).toArray.setIfInBounds i (.int .u8 (c.toNat : Int)) = (bv (l.set i c)).toArray := by simp [bv, List.map_set]
theorem ba_one (l : List UInt8) : (bv l).toArray.all (·.oneCell') = true := by
  simp only [List.all_toArray, List.all_eq_true]
  exact fun u hu => bv_one l u hu
theorem store_bt (w : World) (g i : Nat) (old : Value) (hc : w.cell? ⟨g, i, none⟩ = some old) (hf : w.frozen? ⟨g, i, none⟩ = false) (c : UInt8) : (storeCells ⟨g, i, none⟩ [.int .u8 (c.toNat : Int)]).run Tryd.prog w = .ok () (w.setCell ⟨g, i, none⟩ (.int .u8 (c.toNat : Int))) := by
  go_simp

section
variable {ops : Array Oper} {rest : List Oper} {o : Oper} {a : Act} {w : World} {Q : Exit → Act → World → Prop}
/-- A word stored into an array's place. -/
theorem wpList_put_w (hgd : o.guard = none) (x y : Operand) (ho : o.op = .store 64 x y)
    (g i : Nat) (hx : a.eval x = .pointer (some ⟨g, i, none⟩)) (v : UInt32) (hy : a.eval y = wd v) (t : TypeId) (l : List UInt32) (hg : Whole w g t (wv l)) (hi : i < l.length)
    (h : ∀ w', w.grownBy w' (some g) → Whole w' g t (wv (l.set i v)) → w'.heap.size = w.heap.size → wpList Tryd.prog ops Q rest (a.put o.dst undef) w') : wpList Tryd.prog ops Q (o :: rest) a w := by
  refine wpList_plain hgd fun K hK => ?_
  have c1 : w.cell? ⟨g, i, none⟩ = some (wd l[i]) := (hg.at_ i).trans (wv_at _ _ _ (List.getElem?_eq_getElem hi))
  have q := hg.stored i (wd v)
  rw [wv_set] at q
  have hh := hK _ _ (h _ (grown_store w g i (wd v)) q (by simp))
  have hz : (sizeOf 64).run Tryd.prog w = .ok 1 w := by kernel_rfl
  unfold Oper.wp execOp
  have hc : (wd v).cells = #[wd v] := rfl
  simp only [ho, hx, hy, Instr.storeAt, Instr.sureAddr, storeVar, hc, Sem.run_bind, Sem.run_pure, Result.andThen_ok, hz, List.size_toArray, List.length_cons, List.length_nil, ne_eq, not_true_eq_false, if_false, store_wd w g i _ c1 (hg.free i) v, Oper.upon]
  exact hh
/-- A byte stored into an array's place. -/
theorem wpList_put_b (hgd : o.guard = none) (x y : Operand) (ho : o.op = .store 5 x y)
    (g i : Nat) (hx : a.eval x = .pointer (some ⟨g, i, none⟩)) (c : UInt8) (hy : a.eval y = .int .u8 (c.toNat : Int)) (t : TypeId) (l : List UInt8) (hg : Whole w g t (bv l).toArray) (hi : i < l.length)
    (h : ∀ w', w.grownBy w' (some g) → Whole w' g t (bv (l.set i c)).toArray → w'.heap.size = w.heap.size → wpList Tryd.prog ops Q rest (a.put o.dst undef) w') : wpList Tryd.prog ops Q (o :: rest) a w := by
  refine wpList_plain hgd fun K hK => ?_
  have c1 : w.cell? ⟨g, i, none⟩ = some (.int .u8 (l[i].toNat : Int)) := (hg.at_ i).trans (ba_at _ _ _ (List.getElem?_eq_getElem hi))
  have q := hg.stored i (.int .u8 (c.toNat : Int))
  rw [ba_set] at q
  have hh := hK _ _ (h _ (grown_store w g i (.int .u8 (c.toNat : Int))) q (by simp))
  have hz : (sizeOf 5).run Tryd.prog w = .ok 1 w := by kernel_rfl
  unfold Oper.wp execOp
  have hc : (Value.int .u8 (c.toNat : Int)).cells = #[.int .u8 (c.toNat : Int)] := rfl
  simp only [ho, hx, hy, Instr.storeAt, Instr.sureAddr, storeVar, hc, Sem.run_bind, Sem.run_pure, Result.andThen_ok, hz, List.size_toArray, List.length_cons, List.length_nil, ne_eq, not_true_eq_false, if_false, store_bt w g i _ c1 (hg.free i) c, Oper.upon]
  exact hh
end
end Go.Proofs.YtmnhpkdldeifgaaDoor
