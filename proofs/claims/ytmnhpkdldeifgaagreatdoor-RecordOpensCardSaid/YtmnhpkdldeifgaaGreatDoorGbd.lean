/- What math/bits.RotateLeft32, and package cipher's Quarter and fit answer. Plain mathematics of package cipher, as the package goes about it: bytes laid into words, a block's bytes one by one, how far a message has been changed. Arrays by value: words and bytes stored into their places; shifts by numbers of type int. What package cipher's lay and begin answer: the 16 words as they are at first. -/
import Derived.Test.YtmnhpkdldeifgaaGreatDoorGh
import Derived.Test.YtmnhpkdldeifgaaGreatDoorGb
import Derived.Test.YtmnhpkdldeifgaaGreatDoorGl
import Derived.Test.YtmnhpkdldeifgaaGreatDoorGg
import Derived.Deep.DeepCutAuto
import Derived.Deep.LoopGhost
import Derived.ChangeAlike
namespace Go.Proofs.YtmnhpkdldeifgaaGreatDoor
set_option maxRecDepth 100000
open Go.RowKit

theorem left_16 (x : UInt32) (w : World) : Calls Tryz.prog 99 #[wd x, .int .i64 16] w fun e w' => e = .returned (wd (rotl x 16)) ∧ w = w' := by
  obtain ⟨-, -, -, r4, -⟩ := rules_w
  have s1 := run_shl 16 (by decide) 16 rfl
  have s2 := run_shr 16 (by decide) 16 rfl
  have hb : bits .and .u64 16 31 = 16 := by decide
  go_enter Tryz.func99, Tryz.ntmps99
  go_wp2
  go_ret
  exact ⟨rfl, rfl⟩
theorem left_12 (x : UInt32) (w : World) : Calls Tryz.prog 99 #[wd x, .int .i64 12] w fun e w' => e = .returned (wd (rotl x 12)) ∧ w = w' := by
  obtain ⟨-, -, -, r4, -⟩ := rules_w
  have s1 := run_shl 12 (by decide) 12 rfl
  have s2 := run_shr 20 (by decide) 20 rfl
  have hb : bits .and .u64 12 31 = 12 := by decide
  go_enter Tryz.func99, Tryz.ntmps99
  go_wp2
  go_ret
  exact ⟨rfl, rfl⟩
theorem left_8 (x : UInt32) (w : World) : Calls Tryz.prog 99 #[wd x, .int .i64 8] w fun e w' => e = .returned (wd (rotl x 8)) ∧ w = w' := by
  obtain ⟨-, -, -, r4, -⟩ := rules_w
  have s1 := run_shl 8 (by decide) 8 rfl
  have s2 := run_shr 24 (by decide) 24 rfl
  have hb : bits .and .u64 8 31 = 8 := by decide
  go_enter Tryz.func99, Tryz.ntmps99
  go_wp2
  go_ret
  exact ⟨rfl, rfl⟩
theorem left_7 (x : UInt32) (w : World) : Calls Tryz.prog 99 #[wd x, .int .i64 7] w fun e w' => e = .returned (wd (rotl x 7)) ∧ w = w' := by
  obtain ⟨-, -, -, r4, -⟩ := rules_w
  have s1 := run_shl 7 (by decide) 7 rfl
  have s2 := run_shr 25 (by decide) 25 rfl
  have hb : bits .and .u64 7 31 = 7 := by decide
  go_enter Tryz.func99, Tryz.ntmps99
  go_wp2
  go_ret
  exact ⟨rfl, rfl⟩

set_option maxHeartbeats 1000000 in
theorem quarter_any (a b c d : UInt32) (w : World) :
    Calls Tryz.prog 91 #[wd a, wd b, wd c, wd d] w fun e w' => e = .returned (.tuple #[wd (quarter a b c d).1, wd (quarter a b c d).2.1, wd (quarter a b c d).2.2.1, wd (quarter a b c d).2.2.2]) ∧ Below w.heap.size w w' := by
  obtain ⟨r1, r2, -, -, -⟩ := rules_w
  go_enter Tryz.func91, Tryz.ntmps91
  go_wp2_with fail
  refine (left_16 _ w).mono ?_
  rintro _ _ ⟨rfl, rfl⟩
  go_wp2_with fail
  refine (left_12 _ w).mono ?_
  rintro _ _ ⟨rfl, rfl⟩
  go_wp2_with fail
  refine (left_8 _ w).mono ?_
  rintro _ _ ⟨rfl, rfl⟩
  go_wp2_with fail
  refine (left_7 _ w).mono ?_
  rintro _ _ ⟨rfl, rfl⟩
  go_wp2_with fail
  refine bodyPost_ret (results_tmp4 rfl _ _ _) rfl ?_
  exact ⟨rfl, Below.refl _ _⟩

theorem fit_any (A0 A1 : Option Addr) (n0 n1 cap0 cap1 : Nat) (w : World) : Calls Tryz.prog 49 #[.slice A0 n0 cap0, .slice A1 n1 cap1] w fun e w' => e = .returned (.bool (decide (n0 = 32 ∧ n1 = 12))) ∧ w = w' := by
  by_cases h0 : n0 = 32
  · subst h0
    by_cases h1 : n1 = 12
    · subst h1
      go_enter Tryz.func49, Tryz.ntmps49
      go_wp2
      go_ret
      exact ⟨rfl, rfl⟩
    · have d1 : ((n1 : Int) == 12) = false := by simp; omega
      have e : decide (32 = 32 ∧ n1 = 12) = false := by simp [h1]
      rw [e]
      go_enter Tryz.func49, Tryz.ntmps49
      go_wp2
      go_ret
      exact ⟨rfl, rfl⟩
  · have d0 : ((n0 : Int) == 32) = false := by simp; omega
    have e : decide (n0 = 32 ∧ n1 = 12) = false := by simp [h0]
    rw [e]
    go_enter Tryz.func49, Tryz.ntmps49
    go_wp2
    go_ret
    exact ⟨rfl, rfl⟩
end Go.Proofs.YtmnhpkdldeifgaaGreatDoor

namespace Go.Proofs.YtmnhpkdldeifgaaGreatDoor
set_option maxRecDepth 100000

/-- So many bytes laid into words, from a place on. -/
def layTo (l : List UInt32) (p : Nat) (b : List UInt8) : Nat → List UInt32
  | 0 => l
  | k + 1 => (layTo l p b k).set (p + k / 4) ((layTo l p b k).getD (p + k / 4) 0 ||| (b.getD k 0).toUInt32 <<< UInt32.ofNat (8 * (k % 4)))
theorem layTo_length (l : List UInt32) (p : Nat) (b : List UInt8) (k : Nat) : (layTo l p b k).length = l.length := by
  induction k with
  | zero => rfl
  | succ k ih => rw [layTo, List.length_set, ih]
theorem getD_set_self (m : List UInt32) (i : Nat) (y : UInt32) (h : i < m.length) : (m.set i y).getD i 0 = y := by simp [List.getD, h]
theorem lword_get (b : List UInt8) (t : Nat) : lword ((b.drop t).take 4) = (b.getD t 0).toUInt32 ||| (b.getD (t + 1) 0).toUInt32 <<< 8 ||| (b.getD (t + 2) 0).toUInt32 <<< 16 ||| (b.getD (t + 3) 0).toUInt32 <<< 24 := by
  simp [lword, List.getD, List.getElem?_drop]
theorem layTo_four (l : List UInt32) (p : Nat) (b : List UInt8) (n : Nat) (hp : p + n < l.length) :
    layTo l p b (4 * n + 4) = (layTo l p b (4 * n)).set (p + n) ((layTo l p b (4 * n)).getD (p + n) 0 ||| lword ((b.drop (4 * n)).take 4)) := by
  have d0 : (4 * n) / 4 = n := by omega
  have d1 : (4 * n + 1) / 4 = n := by omega
  have d2 : (4 * n + 2) / 4 = n := by omega
  have d3 : (4 * n + 3) / 4 = n := by omega
  have m0 : (4 * n) % 4 = 0 := by omega
  have m1 : (4 * n + 1) % 4 = 1 := by omega
  have m2 : (4 * n + 2) % 4 = 2 := by omega
  have m3 : (4 * n + 3) % 4 = 3 := by omega
  have hm : p + n < (layTo l p b (4 * n)).length := by rw [layTo_length]; exact hp
  show layTo l p b (4 * n + 3 + 1) = _
  rw [layTo]
  show List.set (layTo l p b (4 * n + 2 + 1)) _ _ = _
  rw [layTo]
  show List.set (List.set (layTo l p b (4 * n + 1 + 1)) _ _) _ _ = _
  rw [layTo]
  show List.set (List.set (List.set (layTo l p b (4 * n + 0 + 1)) _ _) _ _) _ _ = _
  rw [layTo, lword_get]
  simp only [d0, d1, d2, d3, m0, m1, m2, m3]
  generalize layTo l p b (4 * n) = m at *
  rw [getD_set_self _ _ _ (by simpa using hm), getD_set_self _ _ _ (by simpa using hm), getD_set_self _ _ _ (by simpa using hm), List.set_set, List.set_set, List.set_set]
  congr 1
  simp [UInt32.or_assoc]
theorem layTo_words (l : List UInt32) (p : Nat) (b : List UInt8) (n : Nat) (hn : p + n ≤ l.length) (hz : ∀ i, i < n → l[p + i]? = some 0) : layTo l p b (4 * n) = l.take p ++ lwords b n ++ l.drop (p + n) := by
  induction n with
  | zero => simp [layTo, lwords]
  | succ n ih =>
    have h0 := hz n (by omega)
    have hd : l.drop (p + n) = 0 :: l.drop (p + n + 1) := drop_at h0
    have hl : (l.take p ++ lwords b n).length = p + n := by simp [lwords_length]; omega
    show layTo l p b (4 * n + 4) = _
    rw [layTo_four l p b n (by omega), ih (by omega) (fun i hi => hz i (by omega)), hd]
    have g0 : (l.take p ++ lwords b n ++ 0 :: l.drop (p + n + 1)).getD (p + n) 0 = 0 := by
      rw [List.getD, List.getElem?_append_right (by omega), hl]
      simp
    rw [g0, List.set_append_right _ _ (by omega), hl, Nat.sub_self, lwords_next, UInt32.zero_or]
    simp [Nat.add_assoc]
/-- The words before any byte is laid. -/
def words0 (c : UInt32) : List UInt32 := [1634760805, 857760878, 2036477234, 1797285236, 0, 0, 0, 0, 0, 0, 0, 0, c, 0, 0, 0]
theorem words0_length (c : UInt32) : (words0 c).length = 16 := rfl
theorem laid_words (key nonce : List UInt8) (c : UInt32) : layTo (layTo (words0 c) 4 key 32) 13 nonce 12 = words16C key nonce c := by
  have e1 : layTo (words0 c) 4 key 32 = sigma ++ lwords key 8 ++ [c, 0, 0, 0] := by
    rw [show 32 = 4 * 8 by rfl, layTo_words _ _ _ 8 (by simp [words0]) (by
      intro i hi
      match i, hi with
      | 0, _ => rfl
      | 1, _ => rfl
      | 2, _ => rfl
      | 3, _ => rfl
      | 4, _ => rfl
      | 5, _ => rfl
      | 6, _ => rfl
      | 7, _ => rfl)]
    rfl
  rw [e1, show 12 = 4 * 3 by rfl, layTo_words _ _ _ 3 (by simp [sigma, lwords_length]) (by
    intro i hi
    match i, hi with
    | 0, _ => rfl
    | 1, _ => rfl
    | 2, _ => rfl)]
  rfl
theorem words16C_set (key nonce : List UInt8) (c c' : UInt32) : (words16C key nonce c).set 12 c' = words16C key nonce c' := rfl

theorem lstream_at (l : List UInt32) : ∀ (i : Nat) (x : UInt32), l[i / 4]? = some x → (lstream l)[i]? = some (x >>> UInt32.ofNat (8 * (i % 4))).toUInt8 := by
  induction l with
  | nil => intro i x h; simp at h
  | cons y l ih =>
    intro i x h
    have e : lstream (y :: l) = lbytes y ++ lstream l := by simp [lstream]
    have hb : (lbytes y).length = 4 := rfl
    rcases Nat.lt_or_ge i 4 with hi | hi
    · have e0 : i / 4 = 0 := by omega
      rw [e0] at h
      simp at h
      subst h
      rw [e, List.getElem?_append_left (by omega)]
      match i, hi with
      | 0, _ => simp [lbytes]
      | 1, _ => rfl
      | 2, _ => rfl
      | 3, _ => rfl
    · have e0 : i / 4 = (i - 4) / 4 + 1 := by omega
      have e1 : i % 4 = (i - 4) % 4 := by omega
      rw [e0] at h
      rw [e, List.getElem?_append_right (by omega), hb, e1]
      exact ih (i - 4) x (by simpa using h)
end Go.Proofs.YtmnhpkdldeifgaaGreatDoor

namespace Go.Proofs.YtmnhpkdldeifgaaGreatDoor
set_option maxRecDepth 100000
open Go.RowKit

theorem run_shl_i (k : Nat) (hk : k < 32) (t : TypeId) (x : UInt32) (w : World) : (binOp .shl t (wd x) (.int .i64 (k : Int))).run Tryz.prog w = .ok (wd (x <<< UInt32.ofNat k)) w := by
  have e : binOp .shl t (wd x) (.int .i64 (k : Int)) = binOp .shl t (wd x) (.int .u64 (k : Int)) := by simp [wd, binOp]
  rw [e, wd_shl t x k hk]
  rfl
theorem run_shr_i (k : Nat) (hk : k < 32) (t : TypeId) (x : UInt32) (w : World) : (binOp .shr t (wd x) (.int .i64 (k : Int))).run Tryz.prog w = .ok (wd (x >>> UInt32.ofNat k)) w := by
  have e : binOp .shr t (wd x) (.int .i64 (k : Int)) = binOp .shr t (wd x) (.int .u64 (k : Int)) := by simp [wd, binOp]
  rw [e, wd_shr t x k hk]
  rfl
theorem ba_size (l : List UInt8) : (bv l).toArray.size = l.length := by simp [bv]
theorem ba_at (l : List UInt8) (i : Nat) (c : UInt8) (h : l[i]? = some c) : (bv l).toArray[i]? = some (.int .u8 (c.toNat : Int)) := by simp [bv, h]
theorem ba_set (l : List UInt8) (i : Nat) (c : UInt8) : (bv l).toArray.setIfInBounds i (.int .u8 (c.toNat : Int)) = (bv (l.set i c)).toArray := by simp [bv, List.map_set]
theorem ba_one (l : List UInt8) : (bv l).toArray.all (·.oneCell') = true := by
  simp only [List.all_toArray, List.all_eq_true]
  exact fun u hu => bv_one l u hu
theorem store_bt (w : World) (g i : Nat) (old : Value) (hc : w.cell? ⟨g, i, none⟩ = some old) (hf : w.frozen? ⟨g, i, none⟩ = false) (c : UInt8) : (storeCells ⟨g, i, none⟩ [.int .u8 (c.toNat : Int)]).run Tryz.prog w = .ok () (w.setCell ⟨g, i, none⟩ (.int .u8 (c.toNat : Int))) := by
  go_simp

section
variable {ops : Array Oper} {rest : List Oper} {o : Oper} {a : Act} {w : World} {Q : Exit → Act → World → Prop}
/-- A word stored into an array's place. -/
theorem wpList_put_w (hgd : o.guard = none) (x y : Operand) (ho : o.op = .store 57 x y)
    (g i : Nat) (hx : a.eval x = .pointer (some ⟨g, i, none⟩)) (v : UInt32) (hy : a.eval y = wd v) (t : TypeId) (l : List UInt32) (hg : Whole w g t (wv l)) (hi : i < l.length)
    (h : ∀ w', w.grownBy w' (some g) → Whole w' g t (wv (l.set i v)) → w'.heap.size = w.heap.size → wpList Tryz.prog ops Q rest (a.put o.dst undef) w') : wpList Tryz.prog ops Q (o :: rest) a w := by
  refine wpList_plain hgd fun K hK => ?_
  have c1 : w.cell? ⟨g, i, none⟩ = some (wd l[i]) := (hg.at_ i).trans (wv_at _ _ _ (List.getElem?_eq_getElem hi))
  have q := hg.stored i (wd v)
  rw [wv_set] at q
  have hh := hK _ _ (h _ (grown_store w g i (wd v)) q (by simp))
  have hz : (sizeOf 57).run Tryz.prog w = .ok 1 w := by kernel_rfl
  unfold Oper.wp execOp
  have hc : (wd v).cells = #[wd v] := rfl
  simp only [ho, hx, hy, Instr.storeAt, Instr.sureAddr, storeVar, hc, Sem.run_bind, Sem.run_pure, Result.andThen_ok, hz, List.size_toArray, List.length_cons, List.length_nil, ne_eq, not_true_eq_false, if_false, store_wd w g i _ c1 (hg.free i) v, Oper.upon]
  exact hh
/-- A byte stored into an array's place. -/
theorem wpList_put_b (hgd : o.guard = none) (x y : Operand) (ho : o.op = .store 5 x y)
    (g i : Nat) (hx : a.eval x = .pointer (some ⟨g, i, none⟩)) (c : UInt8) (hy : a.eval y = .int .u8 (c.toNat : Int)) (t : TypeId) (l : List UInt8) (hg : Whole w g t (bv l).toArray) (hi : i < l.length)
    (h : ∀ w', w.grownBy w' (some g) → Whole w' g t (bv (l.set i c)).toArray → w'.heap.size = w.heap.size → wpList Tryz.prog ops Q rest (a.put o.dst undef) w') : wpList Tryz.prog ops Q (o :: rest) a w := by
  refine wpList_plain hgd fun K hK => ?_
  have c1 : w.cell? ⟨g, i, none⟩ = some (.int .u8 (l[i].toNat : Int)) := (hg.at_ i).trans (ba_at _ _ _ (List.getElem?_eq_getElem hi))
  have q := hg.stored i (.int .u8 (c.toNat : Int))
  rw [ba_set] at q
  have hh := hK _ _ (h _ (grown_store w g i (.int .u8 (c.toNat : Int))) q (by simp))
  have hz : (sizeOf 5).run Tryz.prog w = .ok 1 w := by kernel_rfl
  unfold Oper.wp execOp
  have hc : (Value.int .u8 (c.toNat : Int)).cells = #[.int .u8 (c.toNat : Int)] := rfl
  simp only [ho, hx, hy, Instr.storeAt, Instr.sureAddr, storeVar, hc, Sem.run_bind, Sem.run_pure, Result.andThen_ok, hz, List.size_toArray, List.length_cons, List.length_nil, ne_eq, not_true_eq_false, if_false, store_bt w g i _ c1 (hg.free i) c, Oper.upon]
  exact hh
end
end Go.Proofs.YtmnhpkdldeifgaaGreatDoor

namespace Go.Proofs.YtmnhpkdldeifgaaGreatDoor
set_option maxRecDepth 100000
open Go.RowKit

theorem zero_w16 : (Tryz.prog.info? 75).map (·.zero) = some (some (.agg (wv (List.replicate 16 0)))) := by kernel_rfl
theorem size_w16 : (Tryz.prog.info? 75).map (·.size) = some 16 := by kernel_rfl
theorem size_of16 (l : List UInt32) (hl : l.length = 16) : (Tryz.prog.info? 75).map (·.size) = some (wv l).size := by rw [wv_size, hl]; exact size_w16
theorem same16 (l l' : List UInt32) (hl : l.length = 16) (hl' : l'.length = 16) : (wv l).size = (wv l').size := by rw [wv_size, wv_size, hl, hl']

set_option maxRecDepth 100000 in
set_option maxHeartbeats 2000000 in
theorem lay_any (l : List UInt32) (hl : l.length = 16) (p : Nat) (A : Option Addr) (n cap : Nat) (b : List UInt8) (w : World) (h : BytesAt w (.slice A n cap) b) (hp : 4 * p + n ≤ 64) :
    Calls Tryz.prog 73 #[.agg (wv l), .int .i64 (p : Int), .slice A n cap] w fun e w' => e = .returned (.agg (wv (layTo l p b n))) ∧ Below w.heap.size w w' := by
  have HZ := Lib.hid h.size
  have H := Lib.hid h
  have HL := Lib.hid hl
  clear h hl
  go_enter Tryz.func73, Tryz.ntmps73
  go_wp2_with (refine wpList_box_row rfl 75 _ rfl _ rfl ?_)
  intro w1 b1 x1 z1
  go_wp2_with (refine wpList_alloc_row rfl 75 rfl _ zero_w16 ?_)
  intro w2 b2 x2 z2
  have X1 : Hid (Whole w2 w.heap.size 75 (wv (layTo l p b 0))) := x1.below b2 (by omega)
  have HB : Hid (Below w.heap.size w w2) := b1.trans (b2.mono (by omega))
  have X2 : Hid (Whole w2 (w.heap.size + 1) 75 (wv (List.replicate 16 0))) := by
    exact x2
  clear b1 b2 x1 x2 z1 z2
  go_wp2_with fail
  go_loopw [10] (fun i wr => ∃ k : Nat, k ≤ n ∧ i = .int .i64 k ∧ Whole wr w.heap.size 75 (wv (layTo l p b k)) ∧ Whole wr (w.heap.size + 1) 75 (wv (List.replicate 16 0)) ∧ Below w.heap.size w wr) (fun i _ => n - (intOf i).toNat)
  case atStart => exact ⟨0, Nat.zero_le _, rfl, X1.out, X2.out, HB.out⟩
  case round =>
    obtain ⟨k, hk, rfl, x1, x2, hb⟩ := hrel
    have Y1 := Lib.hid x1
    have Y2 := Lib.hid x2
    have HBr := Lib.hid hb
    clear x1 x2 hb X1 X2 HB
    have LT : Hid ((layTo l p b k).length = 16) := by rw [Hid, layTo_length]; exact HL.out
    by_cases hlt : k < n
    · obtain ⟨g, off, rfl, hg, hcell⟩ := H.out.spots (by intro e; have := HZ.out.1; rw [e] at this; simp at this; omega)
      have hx : b[k]? = some (b.getD k 0) := by simp [List.getD, List.getElem?_eq_getElem (show k < b.length by have := HZ.out.1; omega)]
      have c0 := (HBr.out.cell (p := ⟨g, off + k, none⟩) hg).trans (hcell k _ hx)
      obtain ⟨q, hq⟩ : ∃ q, q = k / 4 := ⟨_, rfl⟩
      obtain ⟨r, hr⟩ : ∃ r, r = k % 4 := ⟨_, rfl⟩
      obtain ⟨m, hm⟩ : ∃ m, m = p + q := ⟨_, rfl⟩
      obtain ⟨s, hs⟩ : ∃ s, s = 8 * r := ⟨_, rfl⟩
      have hm16 : m < 16 := by omega
      have hx1 : (layTo l p b k)[m]? = some ((layTo l p b k).getD m 0) := by simp [List.getD, List.getElem?_eq_getElem (show m < (layTo l p b k).length by rw [LT.out]; exact hm16)]
      have c1 := (Y1.out.at_ m).trans (wv_at _ _ _ hx1)
      have HS : Hid ((layTo l p b k).set m ((layTo l p b k).getD m 0 ||| (b.getD k 0).toUInt32 <<< UInt32.ofNat s) = layTo l p b (k + 1)) := by
        rw [hs, hr, hm, hq]
        exact Lib.hid rfl
      obtain ⟨-, -, -, r4, -⟩ := rules_w
      have sh := run_shl_i s (by omega)
      have bw : ∀ c : UInt8, Value.int .u32 (IntKind.u32.wrap (c.toNat : Int)) = wd c.toUInt32 := fun c => by
        have := c.toNat_lt
        rw [IntWalk.u32_in _ (by omega)]
        exact byte_wd c
      have tq : IntKind.i64.wrap ((k : Int) / 4) = (q : Int) := by rw [IntWalk.i64_in _ (by omega)]; omega
      have tr : (k : Int).tmod 4 = (r : Int) := by rw [Int.tmod_eq_emod_of_nonneg (by omega)]; omega
      have tm : IntKind.i64.wrap ((p : Int) + (q : Int)) = (m : Int) := by rw [IntWalk.i64_in _ (by omega)]; omega
      have ts : IntKind.i64.wrap (8 * (r : Int)) = (s : Int) := by rw [IntWalk.i64_in _ (by omega)]; omega
      have jm : (m : Int) < 16 := by omega
      have jk : (k : Int) < (n : Int) := by omega
      have HQ := Lib.hid (And.intro hq (And.intro hr (And.intro hm (And.intro hs hm16))))
      clear hq hr hm hs hm16
      have C0 := Lib.hid c0
      have C1 := Lib.hid c1
      generalize (layTo l p b k).getD m 0 = x at *
      generalize b.getD k 0 = c at *
      generalize layTo l p b k = L at *
      clear hx hx1 hcell c0 c1
      go_wp2_with fail
      refine still_tail 17 (by kernel_rfl) (by kernel_rfl) fun w4 h4 b4 => ?_
      simp only [List.take_succ_cons, List.take_zero, List.drop_succ_cons, List.drop_zero]
      have c0 := (World.cell?_of_block (a := ⟨g, off + k, none⟩) (by rw [h4])).trans C0.out
      have c1 := (World.cell?_of_block (a := ⟨w.heap.size, m, none⟩) (by rw [h4])).trans C1.out
      repeat still_step
      refine wpStill_nil ?_
      have WX := Lib.hid (Y1.out.of_heap h4)
      have W2 := Lib.hid (Y2.out.of_heap h4)
      refine wpList_put_w rfl _ _ rfl _ _ rfl _ rfl _ _ WX.out (by rw [LT.out]; exact HQ.out.2.2.2.2) ?_
      intro w5 g5 x5 z5
      rw [HS.out] at x5
      have X5 := Lib.hid x5
      have W5 := Lib.hid (W2.out.grown g5 (by simp))
      have HB4 := HBr.out.trans (b4.mono HBr.out.size)
      have HB5 := Lib.hid (HB4.grown g5 HB4.size (fun k hk => by injection hk; omega))
      clear c0 c1 h4 b4 HB4 x5 g5 z5 WX W2 C0 C1 HBr Y1 Y2 tq tr tm ts jm sh bw r4
      refine wpList_nil ?_
      go_wp2_with fail
      exact ⟨⟨k + 1, by omega, by go_num, X5.out, W5.out, HB5.out⟩, by simp [intOf]; omega⟩
    · obtain rfl : k = n := by omega
      have S16 := Lib.hid (size_of16 _ LT.out)
      have Z16 := Lib.hid (same16 (List.replicate 16 0) _ rfl LT.out)
      obtain ⟨L, hL⟩ : ∃ L, L = layTo l p b k := ⟨_, rfl⟩
      rw [← hL] at Y1 LT S16 Z16
      have HE := Lib.hid hL
      clear hL
      go_upto_region 6 with fail
      refine wp_region_lit (wpList_load_row rfl 75 _ rfl _ rfl _ _ _ _ Y1.out Tryz.underlying75 rfl S16.out (wpList_store_whole rfl 75 _ _ rfl _ _ rfl rfl _ _ Y2.out S16.out Z16.out (wv_one _) ?_))
      intro w6 g6 x6 z6
      refine wpList_nil ?_
      have X6 := Lib.hid x6
      have HB6 := Lib.hid (HBr.out.grown g6 HBr.out.size (fun k hk => by injection hk; omega))
      clear x6 g6 z6
      go_wp2_with fail
      refine bodyPost_ret (v := .agg (wv L)) ?_ rfl ⟨by rw [HE.out], HB6.out⟩
      exact results_cell_row rfl _ _ _ _ _ _ _ rfl X6.out Tryz.underlying75 rfl S16.out

theorem build_w16 (c : UInt32) (w : World) : (Instr.build 75 #[(0, .int .u32 1634760805), (1, .int .u32 857760878), (2, .int .u32 2036477234), (3, .int .u32 1797285236), (12, wd c)]).run Tryz.prog w = .ok (.agg (wv (words0 c))) w :=
  run_build w _ _ _ (by kernel_rfl)
theorem wpList_build_w16 {ops : Array Oper} {rest : List Oper} {o : Oper} {a : Act} {w : World} {Q : Exit → Act → World → Prop} (hgd : o.guard = none) (p : Operand)
    (ho : o.op = .build 75 #[(0, .const (.int .u32 1634760805)), (1, .const (.int .u32 857760878)), (2, .const (.int .u32 2036477234)), (3, .const (.int .u32 1797285236)), (12, p)]) (c : UInt32) (hp : a.eval p = wd c)
    (h : wpList Tryz.prog ops Q rest (a.put o.dst (.agg (wv (words0 c)))) w) : wpList Tryz.prog ops Q (o :: rest) a w := by
  refine wpList_plain hgd fun K hK => ?_
  have q := hK _ _ h
  have e : ∀ v : Value, a.eval (.const v) = v := fun _ => rfl
  unfold Oper.wp execOp
  simp only [ho, List.map_toArray, List.map_cons, List.map_nil, hp, e, build_w16, Sem.run_bind, Sem.run_pure, Result.andThen_ok, Oper.upon]
  exact q

set_option maxRecDepth 100000 in
set_option maxHeartbeats 2000000 in
theorem begin_any (A0 A1 : Option Addr) (cap0 cap1 : Nat) (key nonce : List UInt8) (c : UInt32) (w : World) (h0 : BytesAt w (.slice A0 32 cap0) key) (h1 : BytesAt w (.slice A1 12 cap1) nonce) :
    Calls Tryz.prog 50 #[.slice A0 32 cap0, .slice A1 12 cap1, wd c] w fun e w' => e = .returned (.agg (wv (words16C key nonce c))) ∧ Below w.heap.size w w' := by
  have H0 := Lib.hid h0
  have H1 := Lib.hid h1
  have HE := Lib.hid (laid_words key nonce c)
  have L1 : Hid ((layTo (words0 c) 4 key 32).length = 16) := by rw [Hid, layTo_length]; exact rfl
  have L2 : Hid ((words16C key nonce c).length = 16) := Lib.hid (words16C_length key nonce c)
  have S16 := Lib.hid (size_of16 _ L2.out)
  have Z16 := Lib.hid (same16 (List.replicate 16 0) _ rfl L2.out)
  clear h0 h1
  go_enter Tryz.func50, Tryz.ntmps50
  go_wp2_with (refine wpList_alloc_row rfl 75 rfl _ zero_w16 ?_)
  intro w1 b1 x1 z1
  have X1 := Lib.hid x1
  have B1 := Lib.hid b1
  have Z1 := Lib.hid z1
  clear x1 b1 z1
  go_wp2_with (first | refine wpList_build_w16 rfl _ rfl c rfl ?_ | refine wpList_alloc_row rfl 75 rfl _ zero_w16 ?_)
  intro w2 b2 x2 z2
  have X2 := Lib.hid x2
  have Y1 := Lib.hid (X1.out.below b2 (by have := Z1.out; omega))
  have B2 := Lib.hid (B1.out.trans (b2.mono (by have := Z1.out; omega)))
  have Z2 : Hid (w2.heap.size = w.heap.size + 2) := by have := Z1.out; exact Lib.hid (by omega)
  have Z1' := Z1
  clear x2 b2 z2 B1 X1
  go_wp2_with (refine wpList_store_whole rfl 75 _ _ rfl _ _ rfl rfl _ _ X2.out (size_of16 _ rfl) (same16 _ _ rfl rfl) (wv_one _) ?_)
  intro w3 g3 x3 z3
  have X3 := Lib.hid x3
  have Y3 := Lib.hid (Y1.out.grown g3 (by have := Z1.out; simp; omega))
  have B3 := Lib.hid (B2.out.grown g3 B2.out.size (fun k hk => by have := Z1.out; injection hk; omega))
  have Z3 : Hid (w3.heap.size = w.heap.size + 2) := by have := Z2.out; exact Lib.hid (by omega)
  clear x3 g3 z3 B2 X2 Y1 Z2
  go_wp2_with (refine wpList_load_row rfl 75 _ rfl _ rfl _ _ _ _ X3.out Tryz.underlying75 rfl (size_of16 _ rfl) ?_)
  refine (lay_any (words0 c) rfl 4 A0 32 cap0 key w3 (H0.out.keep fun _ g hg _ => B3.out.block g hg) (by decide)).mono ?_
  rintro e w4 ⟨rfl, b4⟩
  have Y4 := Lib.hid (Y3.out.below b4 (by have := Z3.out; omega))
  have B4 := Lib.hid (B3.out.trans (b4.mono B3.out.size))
  clear b4 B3 Y3 X3 Z3
  go_wp2_with fail
  refine (lay_any (layTo (words0 c) 4 key 32) L1.out 13 A1 12 cap1 nonce w4 (H1.out.keep fun _ g hg _ => B4.out.block g hg) (by decide)).mono ?_
  rintro e w5 ⟨rfl, b5⟩
  have Y5 := Lib.hid (Y4.out.below b5 (Y4.out.lt))
  have B5 := Lib.hid (B4.out.trans (b5.mono B4.out.size))
  clear b5 B4 Y4
  rw [HE.out]
  go_wp2_with (refine wpList_store_whole rfl 75 _ _ rfl _ _ rfl rfl _ _ Y5.out S16.out Z16.out (wv_one _) ?_)
  intro w6 g6 x6 z6
  have X6 := Lib.hid x6
  have HB6 := Lib.hid (B5.out.grown g6 B5.out.size (fun k hk => by injection hk; omega))
  clear x6 g6 z6
  go_wp2_with fail
  refine bodyPost_ret (v := .agg (wv (words16C key nonce c))) ?_ rfl ⟨rfl, HB6.out⟩
  exact results_cell_row rfl _ _ _ _ _ _ _ rfl X6.out Tryz.underlying75 rfl S16.out
end Go.Proofs.YtmnhpkdldeifgaaGreatDoor
