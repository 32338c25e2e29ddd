/- pack.Num and pack.Text, and which blocks they write: the row's own, and new ones. pack.Num and pack.Text behind a row of the call's own, or behind a literal's bytes (a row that is full): which blocks they write; texts of any length. -/
import Derived.Test.YtieidemmajdpmaaDoorGg
import Derived.Test.YtieidemmajdpmaaDoorGd
import Derived.Test.YtieidemmajdpmaaDoorGj
import Derived.Deep.DeepAppendWide
namespace Go.Proofs.YtieidemmajdpmaaDoor
set_option maxRecDepth 100000
open Go.RowKit

/-- The block of a row. -/
abbrev VF (v : Value) : Nat → Prop := fun i => v.ownBlock = some i
theorem Moves.app {w w' : World} {v v' : Value} {H : Nat} (q : w.grownBy w' v.ownBlock) (hat : v'.ownBlock = v.ownBlock ∨ v'.ownBlock = some H) (hH : w.heap.size ≤ H) : Moves (VF v) (VF v') w w' :=
  ⟨Keeps.of_grown q (fun _ e => .inl e), fun i hi => hat.elim (fun e => .inl (by rw [VF] at hi ⊢; rw [← e]; exact hi)) (fun e => .inr (by rw [VF, e] at hi; injection hi with hi; omega))⟩
theorem Moves.after {F F' : Nat → Prop} {w w1 w' : World} (b : Below w.heap.size w w1) (m : Moves F F' w1 w') : Moves F F' w w' := (Moves.of_below F b).trans m
theorem Moves.low {B : Nat} {e : TypeId} {s n : Nat} {v v' : Value} {xs : List Value} {w w' : World} (m : Moves (VF v) (VF v') w w') (h : w.ownsRow B e s v n xs) (hB : B ≤ w.heap.size) : Below B w w' :=
  m.keeps.below (fun i hi => (h.lt i hi).1) hB

set_option maxHeartbeats 1000000 in
theorem append_str_at {w w' : World} {base n : Nat} {v v' : Value} {xs : List Value} (ty : TypeId) (hown : w.ownsRow base 5 1 v n xs) (s : ByteArray) (hlen : n + s.size ≤ 10000000)
    (hr : (Builtin.append_ #[32, 9] ty #[v, .string s]).run Tryd.prog w = .ok v' w') : v'.ownBlock = v.ownBlock ∨ v'.ownBlock = some w.heap.size := by
  obtain ⟨i0, hi0, hz0, hz1, hz2⟩ := info_parts byte_info
  have hst := hown
  rcases hown.2 with ⟨rfl, rfl⟩ | ⟨g, cap, cur, rfl, hbg, hg, hnc, hcm, hcs, htake⟩
  · by_cases hm : s.size = 0
    · obtain ⟨v2, w2, hr2, -, -, h4⟩ := Lib.run_append_own_string (P := Tryd.prog) w w.heap.size 32 9 ty 5 i0 Tryd.underlying32 Tryd.underlying9 hi0 hz0 hz1 hz2 (.slice none 0 0) 0 [] (World.ownsRow_nil w _ _ _) s (by simp only [maxLen]; omega) (by omega) (Nat.le_refl _)
      rw [hr2] at hr
      injection hr with hr _
      subst hr
      rw [h4.2 ⟨rfl, hm⟩]
      exact .inl rfl
    · have hr2 := run_append_nil_string (P := Tryd.prog) w 32 9 ty 5 i0 (.int .u8 0) Tryd.underlying32 Tryd.underlying9 hi0 hz0 s (by omega) (by omega) (by rw [hz2]; omega)
      rw [hr2] at hr
      injection hr with hr _
      subst hr
      exact .inr rfl
  · by_cases hroom : n + s.size ≤ cap
    · have hr2 := Lib.run_append_room_string (P := Tryd.prog) w 32 9 ty 5 i0 Tryd.underlying32 Tryd.underlying9 hi0 hz1 g n cap cur hg s hroom (by rw [hcs]; omega)
      rw [hr2] at hr
      injection hr with hr _
      subst hr
      exact .inl rfl
    · have hxl : xs.length = n := by simpa using hst.1
      have holds : ∀ j u, xs[j]? = some u → w.cell? ((⟨g, 0, none⟩ : Addr).add j) = some u := hst.cells (g := g) rfl
      have hr2 := Lib.run_append_grow_string (P := Tryd.prog) w 32 9 ty 5 i0 (.int .u8 0) Tryd.underlying32 Tryd.underlying9 hi0 hz0 ⟨g, 0, none⟩ n cap xs (by rw [hz1]; simpa using hxl) holds s (by omega) (by omega) (by rw [hz2]; exact growslice_fits (by omega) (by omega))
      rw [hr2] at hr
      injection hr with hr _
      subst hr
      exact .inr rfl

theorem wpList_append_str_at {w : World} {ops : Array Oper} {rest : List Oper} {o : Oper} {a : Act} {Q : Exit → Act → World → Prop} (hgd : o.guard = none) (s x : Operand)
    (ho : o.op = .call { callee := .builtin .append, args := #[s, x], argTypes := #[32, 9] })
    (base : Nat) (v : Value) (n : Nat) (xs : List Value) (hv : a.eval s = v) (hown : w.ownsRow base 5 1 v n xs) (l : ByteArray) (hx : a.eval x = .string l)
    (hlen : n + l.size ≤ 10000000) (hbase : base ≤ w.heap.size)
    (h : ∀ v' w', w'.ownsRow base 5 1 v' (n + l.size) (xs ++ bv l.data.toList) → w.grownBy w' v.ownBlock → (v'.ownBlock = v.ownBlock ∨ v'.ownBlock = some w.heap.size) → wpList Tryd.prog ops Q rest (a.put o.dst v') w') : wpList Tryd.prog ops Q (o :: rest) a w := by
  refine wpList_plain hgd fun _ hK => ?_
  obtain ⟨i0, hi0, hz0, hz1, hz2⟩ := info_parts byte_info
  obtain ⟨v', w', hr, h2, h3, -⟩ := Lib.run_append_own_string (P := Tryd.prog) w base 32 9 o.type 5 i0 Tryd.underlying32 Tryd.underlying9 hi0 hz0 hz1 hz2 v n xs hown l (by simp only [maxLen]; omega) (by omega) hbase
  have hat := append_str_at o.type hown l hlen hr
  have e1 : Lib.strCells l = bv l.data.toList := rfl
  rw [e1] at h2
  unfold Oper.wp execOp
  simp only [ho, resolve, invoke, builtin, Sem.run_bind, Sem.run_pure, Result.andThen_ok, List.map_toArray, List.map_cons, List.map_nil, hv, hx, hr]
  exact hK _ _ (h v' w' h2 h3 hat)

set_option maxHeartbeats 1000000 in
theorem put_num_at (base : Nat) (v : Value) (l : List UInt8) (x size : Nat) (w : World) (h1 : 1 ≤ size) (h8 : size ≤ 8)
    (hown : w.ownsRow base 5 1 v l.length (bv l)) (hb : base ≤ w.heap.size) (hl : l.length ≤ 1000000) :
    Calls Tryd.prog 27 #[v, .int .u64 x, .int .i64 size] w fun e w' =>
      ∃ v', e = .returned v' ∧ w'.ownsRow base 5 1 v' (l ++ be size x).length (bv (l ++ be size x)) ∧ Moves (VF v) (VF v') w w' := by
  go_enter Tryd.func27, Tryd.ntmps27
  go_wp2_with fail
  refine (fits_yes _ _ (by omega) (by omega)).mono ?_
  rintro e w1 ⟨rfl, rfl⟩
  go_wp2_with fail
  have Hown := Lib.hid hown
  clear hown
  go_loopw [0, 13] (fun u i wr => ∃ k : Nat, k ≤ size ∧ i = .int .i64 k ∧ wr.ownsRow base 5 1 u (l.length + k) (bv (l ++ beTo size x k)) ∧ Moves (VF v) (VF u) w wr) (fun _ i _ => size - (intOf i).toNat)
  case atStart => exact ⟨0, Nat.zero_le _, rfl, by simpa [beTo] using Hown.out, Moves.refl _ _⟩
  case round =>
    obtain ⟨k, hk, rfl, ho, hm⟩ := hrel
    have hbs := hm.keeps.size
    by_cases hlt : k < size
    · have hb2 : Below wr.heap.size wr (wr.alloc (.cells #[.int .u8 ((x : Int) / 2 ^ (8 * (size - 1 - k)) % 256)] 5)) := (Below.refl _ _).alloc (Nat.le_refl _) _
      have hlit : BytesAt (wr.alloc (.cells #[.int .u8 ((x : Int) / 2 ^ (8 * (size - 1 - k)) % 256)] 5)) (.slice (some ⟨wr.heap.size, 0, none⟩) 1 1) [beAt size x k] := BytesAt.lit wr [beAt size x k] _ (by
        have := beAt_cell size x k
        rw [← this])
      go_wp2_with (at_builtin; refine wpList_append_bytes_at rfl (.tmp 16) (.tmp 25) rfl base _ (l.length + k) _ rfl (ho.alloc _) _ [beAt size x k] rfl hlit ?c3 ?c5 ?_)
      case c3 => simp; omega
      case c5 => simp; omega
      intro v' w1 ho' hg hat
      have hm' := hm.trans (Moves.after hb2 (Moves.app hg hat (by simp)))
      have ho2 : w1.ownsRow base 5 1 v' (l.length + (k + 1)) (bv (l ++ beTo size x (k + 1))) := by
        rw [beTo, ← List.append_assoc, bv_append]
        exact ho'
      have HO := Lib.hid ho2
      have HM := Lib.hid hm'
      clear ho2 ho' hg ho hat hm hm' hlit hb2
      go_wp2
      go_roundw
      case rel => exact ⟨k + 1, by omega, by go_num, HO.out, HM.out⟩
      case measure => simp [intOf]; omega
    · obtain rfl : k = size := by omega
      have HO := Lib.hid ho
      clear ho
      go_wp2
      go_ret
      exact ⟨_, rfl, by rw [List.length_append, be_length]; exact HO.out, hm⟩

set_option maxHeartbeats 1000000 in
theorem put_text_core (base : Nat) (v : Value) (l : List UInt8) (s : ByteArray) (w : World) (hs : s.size ≤ 65535)
    (hown : w.ownsRow base 5 1 v l.length (bv l)) (hb : base ≤ w.heap.size) (hl : l.length ≤ 900000) :
    Calls Tryd.prog 28 #[v, .string s] w fun e w' =>
      ∃ v', e = .returned v' ∧ w'.ownsRow base 5 1 v' (l ++ encS s).length (bv (l ++ encS s)) ∧ Moves (VF v) (VF v') w w' := by
  have HE : Hid (l ++ encS s = l ++ be 2 s.size ++ s.data.toList) := Lib.hid (by simp [encS])
  have C := Lib.hid (put_num_at base v l s.size 2 w (by omega) (by omega) hown hb (by omega))
  have L2 := Lib.hid (show (l ++ be 2 s.size).length ≤ 900002 by rw [List.length_append, be_length]; omega)
  have HB := Lib.hid hb
  clear hown hb
  go_enter Tryd.func28, Tryd.ntmps28
  go_wp2_with fail
  refine C.out.mono ?_
  rintro e w1 ⟨v1, rfl, ho1, hm1⟩
  have HB1 := Lib.hid (Nat.le_trans HB.out hm1.keeps.size)
  have HO1 := Lib.hid ho1
  have HM1 := Lib.hid hm1
  clear ho1 hm1 C HB
  go_wp2_with (at_builtin; refine wpList_append_str_at rfl (.tmp 14) (.tmp 15) rfl base v1 _ _ rfl HO1.out s rfl ?c1 HB1.out ?_)
  case c1 => have := L2.out; omega
  intro v2 w2 ho2 hg2 hat2
  have HM2 := Lib.hid (HM1.out.trans (Moves.app hg2 hat2 (Nat.le_refl _)))
  have HO2 : Hid (w2.ownsRow base 5 1 v2 (l ++ encS s).length (bv (l ++ encS s))) := Lib.hid (by
    have e1 : (l ++ be 2 s.size ++ s.data.toList).length = l.length + (be 2 s.size).length + s.size := by simp [Nat.add_assoc]
    rw [HE.out, e1, bv_append]
    exact ho2)
  clear ho2 hg2 hat2 HO1 HM1 HE
  go_wp2
  go_ret
  exact ⟨_, rfl, HO2.out, HM2.out⟩
/-- A text of no more bytes than a head can tell. -/
theorem put_text_at (base : Nat) (v : Value) (l s : List UInt8) (w : World) (hs : s.length ≤ 65535)
    (hown : w.ownsRow base 5 1 v l.length (bv l)) (hb : base ≤ w.heap.size) (hl : l.length ≤ 900000) :
    Calls Tryd.prog 28 #[v, .string ⟨s.toArray⟩] w fun e w' =>
      ∃ v', e = .returned v' ∧ w'.ownsRow base 5 1 v' (l ++ encS ⟨s.toArray⟩).length (bv (l ++ encS ⟨s.toArray⟩)) ∧ Moves (VF v) (VF v') w w' :=
  put_text_core base v l ⟨s.toArray⟩ w hs hown hb hl
end Go.Proofs.YtieidemmajdpmaaDoor

namespace Go.Proofs.YtieidemmajdpmaaDoor
set_option maxRecDepth 100000
open Go.RowKit

/-- A row of the call's own, or a full one that lies somewhere. -/
def RowIn (w : World) (B : Nat) (v : Value) (l : List UInt8) : Prop :=
  w.ownsRow B 5 1 v l.length (bv l) ∨ ∃ g, v = .slice (some ⟨g, 0, none⟩) l.length l.length ∧ B ≤ g ∧ g < w.heap.size ∧ BytesAt w v l
theorem RowIn.lt {w : World} {B : Nat} {v : Value} {l : List UInt8} (h : RowIn w B v l) : ∀ i, v.ownBlock = some i → B ≤ i ∧ i < w.heap.size := by
  rcases h with h | ⟨g, rfl, hb, hg, -⟩
  · exact fun i hi => h.lt i hi
  · intro i hi
    injection hi with hi
    subst hi
    exact ⟨hb, hg⟩
theorem RowIn.form {w : World} {B : Nat} {v : Value} {l : List UInt8} (h : RowIn w B v l) : ∃ A cap, v = .slice A l.length cap := by
  rcases h with h | ⟨g, rfl, -⟩
  · exact own_form h
  · exact ⟨_, _, rfl⟩
theorem RowIn.below {w w' : World} {B : Nat} {v : Value} {l : List UInt8} (h : RowIn w B v l) (b : Below w.heap.size w w') : RowIn w' B v l := by
  rcases h with h | ⟨g, e, hb, hg, hy⟩
  · exact .inl (kept_below h b rfl)
  · exact .inr ⟨g, e, hb, Nat.lt_of_lt_of_le hg b.size, hy.below b⟩

/-- Bytes put behind a full row: a new one. -/
theorem run_append_full (w : World) (ty : TypeId) (g : Nat) (l : List UInt8) (h : BytesAt w (.slice (some ⟨g, 0, none⟩) l.length l.length) l) (src : Value) (m : List UInt8) (hs : BytesAt w src m) (hm : m ≠ []) (hlen : l.length + m.length ≤ 10000000) :
    ∃ v' w', (Builtin.append_ #[32, 32] ty #[.slice (some ⟨g, 0, none⟩) l.length l.length, src]).run Tryd.prog w = .ok v' w' ∧ w'.ownsRow w.heap.size 5 1 v' (l.length + m.length) (bv l ++ bv m) ∧ Below w.heap.size w w' := by
  obtain ⟨i0, hi0, hz0, hz1, hz2⟩ := info_parts byte_info
  have holds : ∀ j u, (bv l)[j]? = some u → w.cell? ((⟨g, 0, none⟩ : Addr).add j) = some u := fun j u hu => by
    simp only [bv, List.getElem?_map, Option.map_eq_some_iff] at hu
    obtain ⟨c, hcj, rfl⟩ := hu
    obtain ⟨A, cap, e, -, hc⟩ := h
    obtain ⟨ad, e2, hcell⟩ := hc (by rintro rfl; simp at hcj)
    injection e with e1
    rw [e2] at e1
    injection e1 with e1
    subst e1
    exact hcell j c hcj
  obtain ⟨A, cap, rfl, -, hc⟩ := hs
  obtain ⟨ad, rfl, hcell⟩ := hc hm
  have hr := run_append_grow (P := Tryd.prog) w 32 ty 5 i0 (.int .u8 0) Tryd.underlying32 hi0 hz0 ⟨g, 0, none⟩ l.length l.length (bv l) (by rw [bv_length, hz1, Nat.mul_one]) holds ad m.length cap (bv m) (by rw [bv_length, hz1, Nat.mul_one]) (fun j u hu => by
      simp only [bv, List.getElem?_map, Option.map_eq_some_iff] at hu
      obtain ⟨c, hcj, rfl⟩ := hu
      exact hcell j c hcj) (by have := List.length_pos_iff.2 hm; omega) (by omega) (by rw [hz2]; exact growslice_fits (by have := List.length_pos_iff.2 hm; omega) (by omega))
  have hge := grownCap_ge w (l.length + m.length) l.length 5
  have hcm : grownCap w (l.length + m.length) l.length 5 ≤ maxLen := grownCap_le_maxLen w _ _ _ (by simp only [maxLen]; omega)
  refine ⟨_, _, hr, ⟨by simp [bv_length], .inr ⟨w.heap.size, _, _, rfl, Nat.le_refl _, heap_alloc_new w.drew _, hge, hcm, ?_, ?_⟩⟩, (Below.refl w.heap.size w).drew.alloc (Nat.le_refl _) _⟩
  · have hz : (Value.int IntKind.u8 0).cells.size = 1 := rfl
    simp only [Array.size_append, List.size_toArray, size_zeroCells, hz, bv_length]
    omega
  · simp only [Array.toList_append, Nat.mul_one]
    have e : l.length + m.length = (bv l ++ bv m).length := by simp [bv_length]
    rw [e]
    exact List.take_left

theorem wpList_append_full {w : World} {ops : Array Oper} {rest : List Oper} {o : Oper} {a : Act} {Q : Exit → Act → World → Prop} (hgd : o.guard = none) (s x : Operand)
    (ho : o.op = .call { callee := .builtin .append, args := #[s, x], argTypes := #[32, 32] })
    (g : Nat) (l : List UInt8) (hv : a.eval s = .slice (some ⟨g, 0, none⟩) l.length l.length) (h : BytesAt w (.slice (some ⟨g, 0, none⟩) l.length l.length) l) (src : Value) (m : List UInt8) (hx : a.eval x = src) (hs : BytesAt w src m) (hm : m ≠ []) (hlen : l.length + m.length ≤ 10000000)
    (hk : ∀ v' w', w'.ownsRow w.heap.size 5 1 v' (l.length + m.length) (bv l ++ bv m) → Below w.heap.size w w' → wpList Tryd.prog ops Q rest (a.put o.dst v') w') : wpList Tryd.prog ops Q (o :: rest) a w := by
  refine wpList_plain hgd fun _ hK => ?_
  obtain ⟨v', w', hr, h2, h3⟩ := run_append_full w o.type g l h src m hs hm hlen
  unfold Oper.wp execOp
  simp only [ho, resolve, invoke, builtin, Sem.run_bind, Sem.run_pure, Result.andThen_ok, List.map_toArray, List.map_cons, List.map_nil, hv, hx, hr]
  exact hK _ _ (hk v' w' h2 h3)

set_option maxHeartbeats 1000000 in
theorem put_num_full (g : Nat) (l : List UInt8) (x size : Nat) (w : World) (h1 : 1 ≤ size) (h8 : size ≤ 8)
    (h : BytesAt w (.slice (some ⟨g, 0, none⟩) l.length l.length) l) (hl : l.length ≤ 1000000) :
    Calls Tryd.prog 27 #[.slice (some ⟨g, 0, none⟩) l.length l.length, .int .u64 x, .int .i64 size] w fun e w' =>
      ∃ v', e = .returned v' ∧ w'.ownsRow w.heap.size 5 1 v' (l ++ be size x).length (bv (l ++ be size x)) ∧ Below w.heap.size w w' := by
  have H := Lib.hid h
  clear h
  go_enter Tryd.func27, Tryd.ntmps27
  go_wp2_with fail
  refine (fits_yes _ _ (by omega) (by omega)).mono ?_
  rintro e w1 ⟨rfl, rfl⟩
  go_wp2_with fail
  go_loopw [0, 13] (fun u i wr => ∃ k : Nat, k ≤ size ∧ i = .int .i64 k ∧ ((k = 0 ∧ u = .slice (some ⟨g, 0, none⟩) l.length l.length) ∨ (1 ≤ k ∧ wr.ownsRow w.heap.size 5 1 u (l.length + k) (bv (l ++ beTo size x k)))) ∧ Below w.heap.size w wr) (fun _ i _ => size - (intOf i).toNat)
  case atStart => exact ⟨0, Nat.zero_le _, rfl, .inl ⟨rfl, rfl⟩, Below.refl _ _⟩
  case round =>
    obtain ⟨k, hk, rfl, hor, hb⟩ := hrel
    have hbs := hb.size
    by_cases hlt : k < size
    · have hb2 : Below wr.heap.size wr (wr.alloc (.cells #[.int .u8 ((x : Int) / 2 ^ (8 * (size - 1 - k)) % 256)] 5)) := (Below.refl _ _).alloc (Nat.le_refl _) _
      have hlit : BytesAt (wr.alloc (.cells #[.int .u8 ((x : Int) / 2 ^ (8 * (size - 1 - k)) % 256)] 5)) (.slice (some ⟨wr.heap.size, 0, none⟩) 1 1) [beAt size x k] := BytesAt.lit wr [beAt size x k] _ (by
        have := beAt_cell size x k
        rw [← this])
      rcases hor with ⟨rfl, rfl⟩ | ⟨hk1, ho⟩
      · have y := (H.out.below hb).below hb2
        go_wp2_with (at_builtin; refine wpList_append_full rfl (.tmp 16) (.tmp 25) rfl g l rfl y _ [beAt size x 0] rfl hlit (by simp) ?c3 ?_)
        case c3 => simp; omega
        intro v' w1 ho' hg
        have hb' := (hb.trans (hb2.mono hbs)).trans (hg.mono (by omega))
        have ho2 : w1.ownsRow w.heap.size 5 1 v' (l.length + (0 + 1)) (bv (l ++ beTo size x (0 + 1))) := by
          rw [beTo, ← List.append_assoc, bv_append]
          refine own_less (B := (wr.alloc (.cells #[.int .u8 ((x : Int) / 2 ^ (8 * (size - 1 - 0)) % 256)] 5)).heap.size) ?_ (by have := hb2.size; omega)
          simpa [beTo] using ho'
        have HO := Lib.hid ho2
        have HM := Lib.hid hb'
        clear ho2 ho' hg hb' hlit hb2 y
        go_wp2
        go_roundw
        case rel => exact ⟨0 + 1, by omega, by go_num, .inr ⟨by omega, HO.out⟩, HM.out⟩
        case measure => simp [intOf]; omega
      · go_wp2_with (at_builtin; refine wpList_append_bytes_at rfl (.tmp 16) (.tmp 25) rfl w.heap.size _ (l.length + k) _ rfl (ho.alloc _) _ [beAt size x k] rfl hlit ?c3 ?c5 ?_)
        case c3 => simp; omega
        case c5 => simp; omega
        intro v' w1 ho' hg hat
        have hb' := (hb.trans (hb2.mono hbs)).grown hg (Nat.le_trans hbs hb2.size) (fun i hi => (ho.lt i hi).1)
        have ho2 : w1.ownsRow w.heap.size 5 1 v' (l.length + (k + 1)) (bv (l ++ beTo size x (k + 1))) := by
          rw [beTo, ← List.append_assoc, bv_append]
          exact ho'
        have HO := Lib.hid ho2
        have HM := Lib.hid hb'
        clear ho2 ho' hg ho hat hb' hlit hb2
        go_wp2
        go_roundw
        case rel => exact ⟨k + 1, by omega, by go_num, .inr ⟨by omega, HO.out⟩, HM.out⟩
        case measure => simp [intOf]; omega
    · obtain rfl : k = size := by omega
      have ho : wr.ownsRow w.heap.size 5 1 u0 (l.length + k) (bv (l ++ beTo k x k)) := by
        rcases hor with ⟨rfl, -⟩ | ⟨-, ho⟩
        · omega
        · exact ho
      have HO := Lib.hid ho
      clear ho hor
      go_wp2
      go_ret
      exact ⟨_, rfl, by rw [List.length_append, be_length]; exact HO.out, hb⟩

theorem put_num_in (B : Nat) (v : Value) (l : List UInt8) (x size : Nat) (w : World) (h1 : 1 ≤ size) (h8 : size ≤ 8) (h : RowIn w B v l) (hb : B ≤ w.heap.size) (hl : l.length ≤ 1000000) :
    Calls Tryd.prog 27 #[v, .int .u64 x, .int .i64 size] w fun e w' =>
      ∃ v', e = .returned v' ∧ w'.ownsRow B 5 1 v' (l ++ be size x).length (bv (l ++ be size x)) ∧ Moves (VF v) (VF v') w w' := by
  rcases h with h | ⟨g, rfl, -, -, y⟩
  · exact put_num_at B v l x size w h1 h8 h hb hl
  · refine (put_num_full g l x size w h1 h8 y hl).mono ?_
    rintro e w' ⟨v', rfl, o, b⟩
    exact ⟨v', rfl, own_less o hb, Keeps.of_below b, fun i hi => .inr (o.lt i hi).1⟩

set_option maxHeartbeats 1000000 in
theorem put_text_in (B : Nat) (v : Value) (l : List UInt8) (s : ByteArray) (w : World) (hs : s.size ≤ 9223372036854775807) (h : RowIn w B v l) (hb : B ≤ w.heap.size) (hl : l.length ≤ 900000) :
    Calls Tryd.prog 28 #[v, .string s] w fun e w' =>
      ∃ v', e = .returned v' ∧ w'.ownsRow B 5 1 v' (l ++ encS (cutText s)).length (bv (l ++ encS (cutText s))) ∧ Moves (VF v) (VF v') w w' := by
  obtain ⟨A0, cap0, hv⟩ := h.form
  by_cases hlt : s.size ≤ 65535
  · have hcut : cutText s = s := by
      rw [cutText, Nat.min_eq_left hlt]; exact ByteArray.extract_zero_size
    rw [hcut]
    have HE : Hid (l ++ encS s = l ++ be 2 s.size ++ s.data.toList) := Lib.hid (by simp [encS])
    have C := Lib.hid (put_num_in B v l s.size 2 w (by omega) (by omega) h hb (by omega))
    have L2 := Lib.hid (show (l ++ be 2 s.size).length ≤ 900002 by rw [List.length_append, be_length]; omega)
    have HB := Lib.hid hb
    subst hv
    clear h hb hcut
    go_enter Tryd.func28, Tryd.ntmps28
    go_wp2_with fail
    refine C.out.mono ?_
    rintro e w1 ⟨v1, rfl, ho1, hm1⟩
    have HB1 := Lib.hid (Nat.le_trans HB.out hm1.keeps.size)
    have HO1 := Lib.hid ho1
    have HM1 := Lib.hid hm1
    clear ho1 hm1 C HB
    go_wp2_with (at_builtin; refine wpList_append_str_at rfl (.tmp 14) (.tmp 15) rfl B v1 _ _ rfl HO1.out s rfl ?c1 HB1.out ?_)
    case c1 => have := L2.out; omega
    intro v2 w2 ho2 hg2 hat2
    have HM2 := Lib.hid (HM1.out.trans (Moves.app hg2 hat2 (Nat.le_refl _)))
    have HO2 : Hid (w2.ownsRow B 5 1 v2 (l ++ encS s).length (bv (l ++ encS s))) := Lib.hid (by
      have e1 : (l ++ be 2 s.size ++ s.data.toList).length = l.length + (be 2 s.size).length + s.size := by simp [Nat.add_assoc]
      rw [HE.out, e1, bv_append]
      exact ho2)
    clear ho2 hg2 hat2 HO1 HM1 HE
    go_wp2
    go_ret
    exact ⟨_, rfl, HO2.out, HM2.out⟩
  · have hmin : min s.size 65535 = 65535 := by omega
    have hcut : cutText s = s.extract 0 65535 := by rw [cutText, hmin]
    have hsz : (s.extract 0 65535).size = 65535 := by simp; omega
    rw [hcut]
    have HE : Hid (l ++ encS (s.extract 0 65535) = l ++ be 2 (s.extract 0 65535).size ++ (s.extract 0 65535).data.toList) := Lib.hid (by simp [encS])
    have C := Lib.hid (put_num_in B v l (s.extract 0 65535).size 2 w (by omega) (by omega) h hb (by omega))
    have L2 := Lib.hid (show (l ++ be 2 (s.extract 0 65535).size).length ≤ 900002 by rw [List.length_append, be_length]; omega)
    have HB := Lib.hid hb
    have HS := Lib.hid hsz
    subst hv
    clear h hb hcut hmin hsz
    go_enter Tryd.func28, Tryd.ntmps28
    go_wp2_with fail
    rw [show ((min 65535 s.size : Nat) : Int) = ((s.extract 0 65535).size : Nat) by rw [HS.out]; omega]
    refine C.out.mono ?_
    rintro e w1 ⟨v1, rfl, ho1, hm1⟩
    have HB1 := Lib.hid (Nat.le_trans HB.out hm1.keeps.size)
    have HO1 := Lib.hid ho1
    have HM1 := Lib.hid hm1
    clear ho1 hm1 C HB
    go_wp2_with (at_builtin; refine wpList_append_str_at rfl (.tmp 14) (.tmp 15) rfl B v1 _ _ rfl HO1.out (s.extract 0 65535) rfl ?c1 HB1.out ?_)
    case c1 => have := L2.out; simp at this ⊢; omega
    intro v2 w2 ho2 hg2 hat2
    have HM2 := Lib.hid (HM1.out.trans (Moves.app hg2 hat2 (Nat.le_refl _)))
    have HO2 : Hid (w2.ownsRow B 5 1 v2 (l ++ encS (s.extract 0 65535)).length (bv (l ++ encS (s.extract 0 65535)))) := Lib.hid (by
      rw [HE.out, bv_append]
      have e1 : (l ++ be 2 (s.extract 0 65535).size ++ (s.extract 0 65535).data.toList).length = l.length + (be 2 (min 65535 s.size)).length + min 65535 s.size := by simp [Nat.add_assoc]
      rw [e1]
      simpa using ho2)
    clear ho2 hg2 hat2 HO1 HM1 HE
    go_wp2
    go_ret
    exact ⟨_, rfl, HO2.out, HM2.out⟩
end Go.Proofs.YtieidemmajdpmaaDoor
