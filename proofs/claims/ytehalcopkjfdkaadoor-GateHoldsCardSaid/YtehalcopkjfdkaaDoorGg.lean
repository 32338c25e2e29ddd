/- Over XGenA's words: what pack.Num and the document's Num (carcanetref01) put. Over XGenA's words: what pack.Text and the document's Text (carcanetref01) put. The document's Body. -/
import Derived.Test.YtehalcopkjfdkaaDoorGf
import Derived.Test.YtehalcopkjfdkaaDoorGb
import Derived.Lib.AppendStr
import Derived.Deep.DeepCutAuto
import Derived.Deep.LoopGhost
import Derived.ChangeAlike
namespace Go.Proofs.YtehalcopkjfdkaaDoor
set_option maxRecDepth 100000
open Go.RowKit

set_option maxHeartbeats 400000 in
theorem fits_yes (n : Int) (w : World) (h1 : 1 ≤ n) (h2 : n ≤ 8) :
    Calls Tryd.prog 53 #[.int .i64 n] w fun e w' => e = .returned (.bool true) ∧ w = w' := by
  go_enter Tryd.func53, Tryd.ntmps53
  go_wp2
  go_ret
  exact ⟨rfl, rfl⟩

set_option maxHeartbeats 400000 in
theorem put_num (base : Nat) (v : Value) (l : List UInt8) (x size : Nat) (w : World) (h1 : 1 ≤ size) (h8 : size ≤ 8)
    (hown : w.ownsRow base 5 1 v l.length (bv l)) (hb : base ≤ w.heap.size) (hl : l.length ≤ 1000000) :
    Calls Tryd.prog 41 #[v, .int .u64 x, .int .i64 size] w fun e w' =>
      ∃ v', e = .returned v' ∧ w'.ownsRow base 5 1 v' (l.length + size) (bv (l ++ be size x)) ∧ Below base w w' := by
  obtain ⟨i0, hi0, hz0, hz1, hz2⟩ := info_parts byte_info
  go_enter Tryd.func41, Tryd.ntmps41
  go_wp2_with fail
  refine (fits_yes _ _ (by omega) (by omega)).mono ?_
  rintro e w1 ⟨rfl, rfl⟩
  go_wp2_with fail
  have Hown := Lib.hid hown
  clear hown
  go_loopw [0, 13] (fun u i wr => ∃ k : Nat, k ≤ size ∧ i = .int .i64 k ∧ wr.ownsRow base 5 1 u (l.length + k) (bv (l ++ beTo size x k)) ∧ Below base w wr) (fun _ i _ => size - (intOf i).toNat)
  case atStart => exact ⟨0, Nat.zero_le _, rfl, by simpa [beTo] using Hown.out, Below.refl _ _⟩
  case round =>
    obtain ⟨k, hk, rfl, ho, hbel⟩ := hrel
    have hbs := hbel.size
    by_cases hlt : k < size
    · go_wp2_with (at_builtin; refine wpList_append_own _ rfl (.tmp 16) (.tmp 25) 59 rfl base 5 i0 (.int .u8 0) 1 1 Tryd.underlying59 hi0 hz0 hz1 hz2 rfl (by decide) _ (l.length + k) _ rfl (ho.alloc _) ⟨wr.heap.size, 0, none⟩ 1 1 [.int .u8 ((x : Int) / 2 ^ (8 * (size - 1 - k)) % 256)] rfl rfl ?c1 ?c2 ?c3 ?c4 ?c5 ?_)
      case c1 => exact cell_one_new _ _ _
      case c2 => intro u hu; simp at hu; subst hu; rfl
      case c3 => simp only [maxLen]; omega
      case c4 => omega
      case c5 => simp; omega
      intro v' w1 ho' hg _
      have hr := (ho.alloc (.cells #[.int .u8 ((x : Int) / 2 ^ (8 * (size - 1 - k)) % 256)] 5)).lt
      have hbel' : Below base w w1 := (hbel.alloc (by omega) _).grown hg (by simp; omega) (fun g hg => (hr g hg).1)
      have ho2 : w1.ownsRow base 5 1 v' (l.length + (k + 1)) (bv (l ++ beTo size x (k + 1))) := by
        rw [beTo, ← List.append_assoc, bv_append, beAt_cell]
        exact ho'
      have HO := Lib.hid ho2
      clear ho2 ho' hg ho hr
      go_wp2
      go_roundw
      case rel => exact ⟨k + 1, by omega, by go_num, HO.out, hbel'⟩
      case measure => simp [intOf]; omega
    · obtain rfl : k = size := by omega
      have HO := Lib.hid ho
      clear ho
      go_wp2
      go_ret
      exact ⟨_, rfl, HO.out, hbel⟩

theorem be_eq (size x : Nat) : be size x = (List.range size).map (beAt size x) := by
  have h : ∀ k, beTo size x k = (List.range k).map (beAt size x) := by
    intro k
    induction k with
    | zero => rfl
    | succ k ih => rw [beTo, ih, List.range_succ, List.map_append]; rfl
  exact h size
theorem be_succ (j x : Nat) : be (j + 1) x = UInt8.ofNat (x / 256 ^ j % 256) :: be j x := by
  rw [be_eq, be_eq, List.range_succ_eq_map, List.map_cons, List.map_map]
  congr 1
  · simp only [beAt]
    rw [show (256 : Nat) = 2 ^ 8 from rfl, ← Nat.pow_mul]
    simp
  · apply List.map_congr_left
    intro i _
    simp only [Function.comp, beAt]
    have : j + 1 - 1 - i.succ = j - 1 - i := by omega
    rw [this]

/-- The bytes while the number is written from its end. -/
def midN (l : List UInt8) (size x j : Nat) : List UInt8 := l ++ (List.replicate (size - j) 0 ++ be j x)
theorem midN_length (l : List UInt8) (size x j : Nat) (h : j ≤ size) : (midN l size x j).length = l.length + size := by
  simp [midN, be_length]; omega
theorem midN_zero (l : List UInt8) (size x : Nat) : midN l size x 0 = l ++ List.replicate size 0 := by simp [midN, be, beTo]
theorem midN_all (l : List UInt8) (size x : Nat) : midN l size x size = l ++ be size x := by simp [midN]
theorem midN_set (l : List UInt8) (size x j : Nat) (h : j < size) :
    (bv (midN l size x j)).set (l.length + size - 1 - j) (.int .u8 (((x / 256 ^ j % 256 : Nat)) : Int)) = bv (midN l size x (j + 1)) := by
  have e1 : size - j = (size - (j + 1)) + 1 := by omega
  rw [midN, midN, be_succ, e1, List.replicate_succ']
  simp only [bv, List.map_append, List.map_cons, List.map_nil, List.append_assoc]
  have e2 : l.length + size - 1 - j = (l.map fun c => Value.int .u8 (c.toNat : Int)).length + (size - (j + 1)) := by simp; omega
  rw [e2, List.set_append_right _ _ (by omega), Nat.add_sub_cancel_left]
  congr 1
  rw [List.set_append_right _ _ (by simp)]
  simp

set_option maxHeartbeats 1000000 in
theorem ref_num_put (A : Option Addr) (l : List UInt8) (cap x size : Nat) (w : World) (hb : BytesAt w (.slice A l.length cap) l) (h1 : 1 ≤ size) (h8 : size ≤ 8) (hl : l.length ≤ 3000) (hx : x < 18446744073709551616) :
    Calls Tryd.prog 66 #[.slice A l.length cap, .int .u64 x, .int .i64 size] w fun e w' =>
      ∃ v', e = .returned v' ∧ w'.ownsRow w.heap.size 5 1 v' (l ++ be size x).length (bv (l ++ be size x)) ∧ Below w.heap.size w w' := by
  have HB := Lib.hid hb
  have HX := Lib.hid hx
  clear hb hx
  obtain ⟨i0, hi0, hz0, hz1, hz2⟩ := info_parts byte_info
  have d1 : decide ((size : Int) < 1) = false := by simp; omega
  have d8 : decide ((8 : Int) < (size : Int)) = false := by simp; omega
  go_enter Tryd.func66, Tryd.ntmps66
  go_wp2_with (at_builtin; refine wpList_append_bytes rfl (.tmp 17) (.tmp 18) rfl w.heap.size _ 0 [] rfl (own_empty w) _ l rfl ?c1 ?c2 ?c3 ?_)
  case c1 => exact HB.out.below ((Below.refl _ _).alloc (Nat.le_refl _) _)
  case c2 => omega
  case c3 => simp
  intro v1 w1 ho1 hg1
  have hb1 : Below w.heap.size w w1 := ((Below.refl _ _).alloc (Nat.le_refl _) _).grown hg1 (by simp) (fun k hk => by simp [Value.ownBlock] at hk; omega)
  have HO1 := Lib.hid ho1
  have HB1 := Lib.hid hb1
  clear ho1 hg1 hb1
  go_wp2_with fail
  go_loopw [7, 8] (fun u i wr => ∃ k : Nat, k ≤ size ∧ i = .int .i64 k ∧ wr.ownsRow w.heap.size 5 1 u (l.length + k) (bv (l ++ List.replicate k 0)) ∧ Below w.heap.size w wr) (fun _ i _ => size - (intOf i).toNat)
  case atStart => exact ⟨0, Nat.zero_le _, rfl, by simpa using HO1.out, HB1.out⟩
  case round =>
    obtain ⟨k, hk, rfl, ho, hbel⟩ := hrel
    have HO := Lib.hid ho
    have HBe := Lib.hid hbel
    have zr := hbel.size
    clear ho hbel
    by_cases hlt : k < size
    · go_wp2_with (at_builtin; refine wpList_append_own _ rfl (.tmp 25) (.tmp 26) 59 rfl w.heap.size 5 i0 (.int .u8 0) 1 1 Tryd.underlying59 hi0 hz0 hz1 hz2 rfl (by decide) _ (l.length + k) _ rfl (HO.out.alloc _) ⟨wr.heap.size, 0, none⟩ 1 1 [.int .u8 0] rfl rfl ?c1 ?c2 ?c3 ?c4 ?c5 ?_)
      case c1 => exact cell_one_new _ _ _
      case c2 => intro u hu; simp at hu; subst hu; rfl
      case c3 => simp only [maxLen]; omega
      case c4 => omega
      case c5 => simp; omega
      intro v' w2 ho' hg _
      have hr := (HO.out.alloc (.cells #[.int .u8 0] 5)).lt
      have hbel' : Below w.heap.size w w2 := (HBe.out.alloc (by omega) _).grown hg (by simp; omega) (fun g hg => (hr g hg).1)
      have ho2 : w2.ownsRow w.heap.size 5 1 v' (l.length + (k + 1)) (bv (l ++ List.replicate (k + 1) 0)) := by
        rw [List.replicate_succ', ← List.append_assoc, bv_append]
        exact ho'
      have HO2 := Lib.hid ho2
      have HB2 := Lib.hid hbel'
      clear ho2 ho' hg hr hbel'
      go_wp2
      go_roundw
      case rel => exact ⟨k + 1, by omega, by go_num, HO2.out, HB2.out⟩
      case measure => simp [intOf]; omega
    · obtain rfl : k = size := by omega
      obtain ⟨g, capg, hv, hgb, hgl⟩ := HO.out.form (by omega)
      obtain rfl := hv
      have HOa := Lib.hid (by have q := HO.out; rw [← midN_zero l k x] at q; exact q)
      have HBa := HBe
      obtain ⟨wa, rfl⟩ : ∃ wa : World, wa = wr := ⟨_, rfl⟩
      clear HO HBe hlt hk HO1 HB1
      go_wp2_with fail
      go_loopw [9, 1] (fun i y wr => ∃ j : Nat, j ≤ k ∧ i = .int .i64 ((l.length : Int) + k - 1 - j) ∧ y = .int .u64 ((x / 256 ^ j : Nat) : Int) ∧ wr.ownsRow w.heap.size 5 1 (.slice (some ⟨g, 0, none⟩) (l.length + k) capg) (l.length + k) (bv (midN l k x j)) ∧ Below w.heap.size w wr) (fun i _ _ => (intOf i + 1 - l.length).toNat)
      case atStart => exact ⟨0, Nat.zero_le _, by go_num, by simp, HOa.out, HBa.out⟩
      case round =>
        obtain ⟨j, hj, rfl, rfl, ho, hbel⟩ := hrel
        have HO := Lib.hid ho
        have HBe := Lib.hid hbel
        have zr := hbel.size
        clear ho hbel
        by_cases hlt : j < k
        · have c0 := HO.out.cellAt (l.length + k - 1 - j) (by omega)
          have f0 := HO.out.frozenAt (l.length + k - 1 - j)
          have hlen : l.length + k - 1 - j < (bv (midN l k x j)).length := by rw [bv_length, midN_length _ _ _ _ hj]; omega
          rw [List.getElem?_eq_getElem hlen] at c0
          generalize (bv (midN l k x j))[l.length + k - 1 - j] = old at c0
          have HS := Lib.hid (midN_set l k x j hlt)
          have HW : Hid (IntKind.u64.wrap (((x / 256 ^ j : Nat) : Int) / 256) = ((x / 256 ^ (j + 1) : Nat) : Int)) := by
            have e1 : x / 256 ^ (j + 1) = x / 256 ^ j / 256 := by rw [Nat.div_div_eq_div_mul, Nat.pow_succ]
            have e2 : x / 256 ^ j < 18446744073709551616 := Nat.lt_of_le_of_lt (Nat.div_le_self _ _) HX.out
            show IntKind.u64.wrap (((x / 256 ^ j : Nat) : Int) / 256) = ((x / 256 ^ (j + 1) : Nat) : Int)
            rw [e1, IntKind.wrap_u64]
            generalize x / 256 ^ j = y at *
            omega
          have HE : Hid (((x / 256 ^ j % 256 : Nat) : Int) = ((x / 256 ^ j : Nat) : Int) % 256) := Int.natCast_emod _ _
          clear hlen
          generalize x / 256 ^ j = y at *
          go_wp2_with fail
          refine ⟨⟨j + 1, by omega, by congr 1; omega, by rw [HW.out], ?_, HBe.out.setCell (by exact hgb) _⟩, by simp [intOf]; omega⟩
          have q := HO.out.stored (l.length + k - 1 - j) (.int .u8 ((y : Int) % 256))
          rw [← HE.out, HS.out] at q
          rw [← HE.out]
          exact q.1
        · obtain rfl : j = k := by omega
          have ho := HO.out
          rw [midN_all] at ho
          have HO2 : Hid (wr.ownsRow w.heap.size 5 1 (.slice (some ⟨g, 0, none⟩) (l.length + j) capg) (l ++ be j x).length (bv (l ++ be j x))) := by
            rw [List.length_append, be_length]; exact ho
          clear ho HO
          go_wp2
          go_ret
          exact ⟨_, rfl, HO2.out, HBe.out⟩

set_option maxHeartbeats 400000 in
theorem ref_num_put_not (v : Value) (x n : Int) (w : World) (h : n < 1 ∨ 8 < n) :
    Calls Tryd.prog 66 #[v, .int .u64 x, .int .i64 n] w fun e w' => e = .returned v ∧ w = w' := by
  by_cases h1 : n < 1
  · have d1 : decide (n < 1) = true := by simpa using h1
    go_enter Tryd.func66, Tryd.ntmps66
    go_wp2
    go_ret
    exact ⟨rfl, rfl⟩
  · have d1 : decide (n < 1) = false := by simpa using h1
    have d8 : decide (8 < n) = true := by simp; omega
    go_enter Tryd.func66, Tryd.ntmps66
    go_wp2
    go_ret
    exact ⟨rfl, rfl⟩
end Go.Proofs.YtehalcopkjfdkaaDoor

namespace Go.Proofs.YtehalcopkjfdkaaDoor
set_option maxRecDepth 100000
open Go.RowKit

/-- A text, as it is put. -/
def encS (s : ByteArray) : List UInt8 := be 2 s.size ++ s.data.toList
theorem encS_length (s : ByteArray) : (encS s).length = 2 + s.size := by simp [encS, be_length]

set_option maxHeartbeats 400000 in
theorem put_text (base : Nat) (v : Value) (l : List UInt8) (s : ByteArray) (w : World) (hs : s.size ≤ 9223372036854775807)
    (hown : w.ownsRow base 5 1 v l.length (bv l)) (hb : base ≤ w.heap.size) (hl : l.length ≤ 900000) :
    Calls Tryd.prog 40 #[v, .string s] w fun e w' =>
      ∃ v', e = .returned v' ∧ w'.ownsRow base 5 1 v' (l.length + 2 + (cutText s).size) (bv (l ++ be 2 (cutText s).size ++ (cutText s).data.toList)) ∧ Below base w w' := by
  obtain ⟨i0, hi0, hz0, hz1, hz2⟩ := info_parts byte_info
  by_cases hlt : s.size ≤ 65535
  · have hcut : cutText s = s := by
      rw [cutText, Nat.min_eq_left hlt]; exact ByteArray.extract_zero_size
    rw [hcut]
    clear hcut
    go_enter Tryd.func40, Tryd.ntmps40
    go_wp2_with fail
    refine (put_num base v l s.size 2 w (by omega) (by omega) hown hb (by omega)).mono ?_
    rintro e w1 ⟨v1, rfl, ho1, hb1⟩
    have hbs := hb1.size
    go_wp2_with (at_builtin; refine Lib.wpList_append_own_string _ rfl (.tmp 14) (.tmp 15) 59 9 rfl base 5 i0 Tryd.underlying59 Tryd.underlying9 hi0 hz0 hz1 hz2 v1 (l.length + 2) _ rfl ho1 s rfl ?c1 ?c2 ?c3 ?_)
    case c1 => simp only [maxLen]; omega
    case c2 => omega
    case c3 => omega
    intro v2 w2 ho2 hg2 _
    have hbel : Below base w w2 := hb1.grown hg2 (by omega) (fun k hk => (ho1.lt k hk).1)
    have e1 : Lib.strCells s = bv s.data.toList := rfl
    rw [e1, ← bv_append] at ho2
    have HO := Lib.hid ho2
    clear ho2 hg2 ho1 e1
    go_wp2
    go_ret
    exact ⟨_, rfl, HO.out, hbel⟩
  · have hmin : min s.size 65535 = 65535 := by omega
    have hcut : cutText s = s.extract 0 65535 := by rw [cutText, hmin]
    have hsz : (s.extract 0 65535).size = 65535 := by simp; omega
    rw [hcut]
    have HS := Lib.hid hsz
    clear hcut hmin hsz
    go_enter Tryd.func40, Tryd.ntmps40
    go_wp2_with fail
    rw [show ((min 65535 s.size : Nat) : Int) = ((s.extract 0 65535).size : Nat) by rw [HS.out]; omega]
    refine (put_num base v l (s.extract 0 65535).size 2 w (by omega) (by omega) hown hb (by omega)).mono ?_
    rintro e w1 ⟨v1, rfl, ho1, hb1⟩
    have hbs := hb1.size
    go_wp2_with (at_builtin; refine Lib.wpList_append_own_string _ rfl (.tmp 14) (.tmp 15) 59 9 rfl base 5 i0 Tryd.underlying59 Tryd.underlying9 hi0 hz0 hz1 hz2 v1 (l.length + 2) _ rfl ho1 (s.extract 0 65535) rfl ?c1 ?c2 ?c3 ?_)
    case c1 => rw [HS.out]; simp only [maxLen]; omega
    case c2 => rw [HS.out]; omega
    case c3 => omega
    intro v2 w2 ho2 hg2 _
    have hbel : Below base w w2 := hb1.grown hg2 (by omega) (fun k hk => (ho1.lt k hk).1)
    have e1 : Lib.strCells (s.extract 0 65535) = bv (s.extract 0 65535).data.toList := rfl
    rw [e1, ← bv_append] at ho2
    have HO := Lib.hid ho2
    clear ho2 hg2 ho1 e1
    go_wp2
    go_ret
    exact ⟨_, rfl, by simpa using HO.out, hbel⟩

set_option maxHeartbeats 400000 in
theorem ref_text_put (A : Option Addr) (l : List UInt8) (cap : Nat) (s : ByteArray) (w : World) (hb : BytesAt w (.slice A l.length cap) l) (hl : l.length ≤ 3000) (hs : s.size ≤ 70000) :
    Calls Tryd.prog 65 #[.slice A l.length cap, .string s] w fun e w' =>
      ∃ v', e = .returned v' ∧ w'.ownsRow w.heap.size 5 1 v' (l ++ encS (cutText s)).length (bv (l ++ encS (cutText s))) ∧ Below w.heap.size w w' := by
  have HB := Lib.hid hb
  clear hb
  by_cases hlt : s.size ≤ 65535
  · have hcut : cutText s = s := by
      rw [cutText, Nat.min_eq_left hlt]; exact ByteArray.extract_zero_size
    rw [hcut]
    clear hcut
    go_enter Tryd.func65, Tryd.ntmps65
    go_wp2_with fail
    refine (ref_num_put A l cap s.size 2 w HB.out (by omega) (by omega) hl (by omega)).mono ?_
    rintro e w1 ⟨v1, rfl, ho1, hb1⟩
    obtain ⟨vs, w2, hcv, hby, hbw⟩ := conv_str w1 s
    have HBY := Lib.hid hby
    have HO2 := Lib.hid (ho1.kept (row := none) ⟨hbw.os, hbw.tape, hbw.output, hbw.size, fun k hk _ => hbw.block k hk⟩ (by cases v1.ownBlock <;> simp))
    have zz := hb1.size
    have HB2 := Lib.hid (hb1.trans (hbw.mono zz))
    have hsl : (l ++ be 2 s.size).length = l.length + 2 := by simp [be_length]
    have z2 := hbw.size
    have HSL := Lib.hid hsl
    clear ho1 hb1 hby hbw hsl
    go_wp2_with (at_builtin; refine wpList_append_bytes rfl (.tmp 14) (.tmp 16) rfl w.heap.size _ (l ++ be 2 s.size).length _ rfl HO2.out _ s.data.toList rfl HBY.out ?c2 ?c3 ?_)
    case c2 => rw [HSL.out]; simp; omega
    case c3 => omega
    intro v3 w3 ho3 hg3
    have hB3 := HB2.out.grown hg3 (by omega) (fun k hk => (HO2.out.lt k hk).1)
    have HO3 : Hid (w3.ownsRow w.heap.size 5 1 v3 (l ++ encS s).length (bv (l ++ encS s))) := by
      rw [encS, ← List.append_assoc, bv_append, List.length_append]
      refine Lib.hid ?_
      simpa using ho3
    have HB3 := Lib.hid hB3
    clear ho3 hg3 hB3 hcv
    go_wp2
    go_ret
    exact ⟨_, rfl, HO3.out, HB3.out⟩
  · have hmin : min s.size 65535 = 65535 := by omega
    have hcut : cutText s = s.extract 0 65535 := by rw [cutText, hmin]
    have hsz : (s.extract 0 65535).size = 65535 := by simp; omega
    rw [hcut]
    have HS := Lib.hid hsz
    clear hcut hmin hsz
    go_enter Tryd.func65, Tryd.ntmps65
    go_wp2_with fail
    rw [show ((min 65535 s.size : Nat) : Int) = ((s.extract 0 65535).size : Nat) by rw [HS.out]; omega]
    refine (ref_num_put A l cap (s.extract 0 65535).size 2 w HB.out (by omega) (by omega) hl (by rw [HS.out]; omega)).mono ?_
    rintro e w1 ⟨v1, rfl, ho1, hb1⟩
    obtain ⟨vs, w2, hcv, hby, hbw⟩ := conv_str w1 (s.extract 0 65535)
    have HBY := Lib.hid hby
    have HO2 := Lib.hid (ho1.kept (row := none) ⟨hbw.os, hbw.tape, hbw.output, hbw.size, fun k hk _ => hbw.block k hk⟩ (by cases v1.ownBlock <;> simp))
    have zz := hb1.size
    have HB2 := Lib.hid (hb1.trans (hbw.mono zz))
    have hsl : (l ++ be 2 (s.extract 0 65535).size).length = l.length + 2 := by simp [be_length]
    have hsl2 : (s.extract 0 65535).data.toList.length = 65535 := by
      rw [Array.length_toList]
      exact HS.out
    have z2 := hbw.size
    have HSL := Lib.hid hsl
    have HSL2 := Lib.hid hsl2
    clear ho1 hb1 hby hbw hsl hsl2
    go_wp2_with (at_builtin; refine wpList_append_bytes rfl (.tmp 14) (.tmp 16) rfl w.heap.size _ (l ++ be 2 (s.extract 0 65535).size).length _ rfl HO2.out _ (s.extract 0 65535).data.toList rfl HBY.out ?c2 ?c3 ?_)
    case c2 => rw [HSL.out, HSL2.out]; omega
    case c3 => omega
    intro v3 w3 ho3 hg3
    have hB3 := HB2.out.grown hg3 (by omega) (fun k hk => (HO2.out.lt k hk).1)
    have HO3 : Hid (w3.ownsRow w.heap.size 5 1 v3 (l ++ encS (s.extract 0 65535)).length (bv (l ++ encS (s.extract 0 65535)))) := by
      rw [encS, ← List.append_assoc, bv_append, List.length_append]
      refine Lib.hid ?_
      simpa using ho3
    have HB3 := Lib.hid hB3
    clear ho3 hg3 hB3 hcv
    go_wp2
    go_ret
    exact ⟨_, rfl, HO3.out, HB3.out⟩
end Go.Proofs.YtehalcopkjfdkaaDoor

namespace Go.Proofs.YtehalcopkjfdkaaDoor
set_option maxRecDepth 100000
open Go.RowKit

/-- A number of any sign, as 64 bits. -/
def uN (i : Int) : Nat := (i % 18446744073709551616).toNat
theorem uN_lt (i : Int) : uN i < 18446744073709551616 := by
  have := Int.emod_lt_of_pos i (show (0 : Int) < 18446744073709551616 by decide)
  have := Int.emod_nonneg i (show (18446744073709551616 : Int) ≠ 0 by decide)
  rw [uN]
  omega
theorem uN_wrap (i : Int) : IntKind.u64.wrap i = (uN i : Int) := by
  have := Int.emod_nonneg i (show (18446744073709551616 : Int) ≠ 0 by decide)
  rw [uN, Int.toNat_of_nonneg this]
  rfl
def nameE (n : List UInt8) : List UInt8 := encS ⟨n.toArray⟩
def bodyL (e : Ent) : List UInt8 := nameE e.name ++ be 8 e.id ++ be 4 (uN e.since) ++ be 4 (uN e.till) ++ be 2 (uN e.index)
theorem nameE_length (n : List UInt8) : (nameE n).length = 2 + n.length := by simp [nameE, encS_length]; rfl

theorem bodyL_length (e : Ent) : (bodyL e).length = 20 + e.name.length := by
  simp only [bodyL, List.length_append, nameE_length, be_length]; omega

/-- Num behind a row of the call's own, whose block is known. -/
theorem refNum_own (v : Value) (l : List UInt8) (x size B : Nat) (w : World) (h : w.ownsRow B 5 1 v l.length (bv l)) (h1 : 1 ≤ size) (h8 : size ≤ 8) (hl : l.length ≤ 3000) (hx : x < 18446744073709551616) (hB : B ≤ w.heap.size) :
    Calls Tryd.prog 66 #[v, .int .u64 (x : Int), .int .i64 (size : Int)] w fun e w' =>
      ∃ v', e = .returned v' ∧ w'.ownsRow B 5 1 v' (l ++ be size x).length (bv (l ++ be size x)) ∧ Below w.heap.size w w' := by
  obtain ⟨A, cap, rfl⟩ := own_form h
  refine (ref_num_put A l cap x size w (BytesAt.of_own h) h1 h8 hl hx).mono ?_
  rintro e w' ⟨v', rfl, ho, hb⟩
  exact ⟨v', rfl, own_less ho hB, hb⟩

set_option maxHeartbeats 1000000 in
theorem refBody_any (a : Ent) (hn : a.name.length ≤ 1000) (hi : a.id < 18446744073709551616) (w : World) :
    Calls Tryd.prog 58 #[a.val] w fun e w' => ∃ v', e = .returned v' ∧ w'.ownsRow w.heap.size 5 1 v' (bodyL a).length (bv (bodyL a)) ∧ Below w.heap.size w w' := by
  obtain ⟨n, i, f, u, x, t⟩ := a
  simp only [Ent.val, Ent.enc]
  have hn' : n.length ≤ 1000 := hn
  have hi' : i < 18446744073709551616 := hi
  have HN := Lib.hid hn'
  have HI := Lib.hid hi'
  have r1 := uN_wrap f
  have r2 := uN_wrap u
  have r3 := uN_wrap x
  have L1 := Lib.hid (uN_lt f)
  have L2 := Lib.hid (uN_lt u)
  have L3 := Lib.hid (uN_lt x)
  have HD : Hid (bodyL ⟨n, i, f, u, x, t⟩ = nameE n ++ be 8 i ++ be 4 (uN f) ++ be 4 (uN u) ++ be 2 (uN x)) := Lib.hid rfl
  generalize uN f = f' at *
  generalize uN u = u' at *
  generalize uN x = x' at *
  clear hn hi hn' hi'
  go_enter Tryd.func58, Tryd.ntmps58
  go_wp2_with fail
  have X := Whole.new w 29 #[.string ⟨n.toArray⟩, .int .u64 (i : Int), .int .i64 f, .int .i64 u, .int .i64 x, .string ⟨t.toArray⟩]
  have b : Below w.heap.size w (w.alloc (.cells #[.string ⟨n.toArray⟩, .int .u64 (i : Int), .int .i64 f, .int .i64 u, .int .i64 x, .string ⟨t.toArray⟩] 29)) := (Below.refl _ _).alloc (Nat.le_refl _) _
  have z : w.heap.size < (w.alloc (.cells #[.string ⟨n.toArray⟩, .int .u64 (i : Int), .int .i64 f, .int .i64 u, .int .i64 x, .string ⟨t.toArray⟩] 29)).heap.size := X.lt
  generalize w.alloc (.cells #[.string ⟨n.toArray⟩, .int .u64 (i : Int), .int .i64 f, .int .i64 u, .int .i64 x, .string ⟨t.toArray⟩] 29) = w1 at *
  have X1 := Lib.hid X
  have B1 := Lib.hid b
  have Z1 := Lib.hid z
  have NL := Lib.hid (nameE_length n)
  clear X b z
  refine (ref_text_put none [] 0 ⟨n.toArray⟩ w1 (BytesAt.nil w1) (by decide) (by have := HN.out; show n.length ≤ 70000; omega)).mono ?_
  rintro e w2 ⟨v2, rfl, o2, b2⟩
  have ec : cutText ⟨n.toArray⟩ = ⟨n.toArray⟩ := by
    have hs : (⟨n.toArray⟩ : ByteArray).size = n.length := rfl
    rw [cutText, Nat.min_eq_left (by rw [hs]; have := HN.out; omega)]
    exact ByteArray.extract_zero_size
  rw [ec, List.nil_append, show encS ⟨n.toArray⟩ = nameE n from rfl] at o2
  clear ec
  have O2 := Lib.hid (own_less o2 (Nat.le_of_lt Z1.out))
  have X2 := Lib.hid (X1.out.below b2 Z1.out)
  have B2 := Lib.hid (B1.out.trans (b2.mono B1.out.size))
  have Z2 := Lib.hid (Nat.lt_of_lt_of_le Z1.out b2.size)
  have c := X2.out.at_ 1
  simp at c
  clear o2 b2 X1 B1 Z1
  go_wp2_with fail
  refine (refNum_own v2 (nameE n) i 8 w.heap.size w2 O2.out (by decide) (by decide) (by rw [NL.out]; have := HN.out; omega) HI.out (Nat.le_of_lt Z2.out)).mono ?_
  rintro e w3 ⟨v3, rfl, o3, b3⟩
  clear c O2
  have O3 := Lib.hid o3
  have X3 := Lib.hid (X2.out.below b3 Z2.out)
  have B3 := Lib.hid (B2.out.trans (b3.mono B2.out.size))
  have Z3 := Lib.hid (Nat.lt_of_lt_of_le Z2.out b3.size)
  have c := X3.out.at_ 2
  simp at c
  clear o3 b3 X2 B2 Z2
  go_wp2_with fail
  refine (refNum_own v3 (nameE n ++ be 8 i) f' 4 w.heap.size w3 O3.out (by decide) (by decide) (by simp only [List.length_append, be_length, NL.out]; have := HN.out; omega) L1.out (Nat.le_of_lt Z3.out)).mono ?_
  rintro e w4 ⟨v4, rfl, o4, b4⟩
  clear c O3
  have O4 := Lib.hid o4
  have X4 := Lib.hid (X3.out.below b4 Z3.out)
  have B4 := Lib.hid (B3.out.trans (b4.mono B3.out.size))
  have Z4 := Lib.hid (Nat.lt_of_lt_of_le Z3.out b4.size)
  have c := X4.out.at_ 3
  simp at c
  clear o4 b4 X3 B3 Z3
  go_wp2_with fail
  refine (refNum_own v4 (nameE n ++ be 8 i ++ be 4 f') u' 4 w.heap.size w4 O4.out (by decide) (by decide) (by simp only [List.length_append, be_length, NL.out]; have := HN.out; omega) L2.out (Nat.le_of_lt Z4.out)).mono ?_
  rintro e w5 ⟨v5, rfl, o5, b5⟩
  clear c O4
  have O5 := Lib.hid o5
  have X5 := Lib.hid (X4.out.below b5 Z4.out)
  have B5 := Lib.hid (B4.out.trans (b5.mono B4.out.size))
  have Z5 := Lib.hid (Nat.lt_of_lt_of_le Z4.out b5.size)
  have c := X5.out.at_ 4
  simp at c
  clear o5 b5 X4 B4 Z4
  go_wp2_with fail
  refine (refNum_own v5 (nameE n ++ be 8 i ++ be 4 f' ++ be 4 u') x' 2 w.heap.size w5 O5.out (by decide) (by decide) (by simp only [List.length_append, be_length, NL.out]; have := HN.out; omega) L3.out (Nat.le_of_lt Z5.out)).mono ?_
  rintro e w6 ⟨v6, rfl, o6, b6⟩
  clear c O5
  rw [← HD.out] at o6
  have O6 := Lib.hid o6
  have B6 := Lib.hid (B5.out.trans (b6.mono B5.out.size))
  clear o6 b6 B5 X5 Z5
  go_wp2
  go_ret
  exact ⟨_, rfl, O6.out, B6.out⟩
end Go.Proofs.YtehalcopkjfdkaaDoor
