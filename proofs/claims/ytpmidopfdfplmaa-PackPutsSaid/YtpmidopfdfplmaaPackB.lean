/- What Num and Text put behind bytes of the caller's own: contracts. -/
import Derived.Test.YtpmidopfdfplmaaPackA
import Derived.Test.YtpmidopfdfplmaaPackM
import Derived.Lib.AppendStr
namespace Go.Proofs.Ytpmidopfdfplmaa
open Go.RowKit

theorem byte_info : (Try.prog.info? 5).map (fun i => (i.zero, i.size, i.bytes)) = some (some (.int .u8 0), 1, 1) := by kernel_rfl

set_option maxHeartbeats 400000 in
theorem put_num (base : Nat) (v : Value) (l : List UInt8) (x size : Nat) (w : World) (h1 : 1 ≤ size) (h8 : size ≤ 8)
    (hown : w.ownsRow base 5 1 v l.length (bv l)) (hb : base ≤ w.heap.size) (hl : l.length ≤ 1000000) :
    Calls Try.prog 8 #[v, .int .u64 x, .int .i64 size] w fun e w' =>
      ∃ v', e = .returned v' ∧ w'.ownsRow base 5 1 v' (l.length + size) (bv (l ++ be size x)) ∧ Below base w w' := by
  obtain ⟨i0, hi0, hz0, hz1, hz2⟩ := info_parts byte_info
  go_enter Try.func8, Try.ntmps8
  go_wp2_with fail
  refine (fits_yes _ _ (by omega) (by omega)).mono ?_
  rintro e w1 ⟨rfl, rfl⟩
  go_wp2_with fail
  have Hown := Lib.hid hown
  clear hown
  go_loopw [0, 13] (fun u i wr => ∃ k : Nat, k ≤ size ∧ i = .int .i64 k ∧ wr.ownsRow base 5 1 u (l.length + k) (bv (l ++ beTo size x k)) ∧ Below base w wr) (fun _ i _ => size - (intOf i).toNat)
  case atStart => exact ⟨0, Nat.zero_le _, rfl, by simpa [beTo] using Hown.out, Below.refl _ _⟩
  case round =>
    obtain ⟨k, hk, rfl, ho, hbel⟩ := hrel
    have hbs := hbel.size
    by_cases hlt : k < size
    · go_wp2_with (at_builtin; refine wpList_append_own _ rfl (.tmp 16) (.tmp 25) 22 rfl base 5 i0 (.int .u8 0) 1 1 Try.underlying22 hi0 hz0 hz1 hz2 rfl (by decide) _ (l.length + k) _ rfl (ho.alloc _) ⟨wr.heap.size, 0, none⟩ 1 1 [.int .u8 ((x : Int) / 2 ^ (8 * (size - 1 - k)) % 256)] rfl rfl ?c1 ?c2 ?c3 ?c4 ?c5 ?_)
      case c1 => exact cell_one_new _ _ _
      case c2 => intro u hu; simp at hu; subst hu; rfl
      case c3 => simp only [maxLen]; omega
      case c4 => omega
      case c5 => simp; omega
      intro v' w1 ho' hg _
      have hr := (ho.alloc (.cells #[.int .u8 ((x : Int) / 2 ^ (8 * (size - 1 - k)) % 256)] 5)).lt
      have hbel' : Below base w w1 := (hbel.alloc (by omega) _).grown hg (by simp; omega) (fun g hg => (hr g hg).1)
      have ho2 : w1.ownsRow base 5 1 v' (l.length + (k + 1)) (bv (l ++ beTo size x (k + 1))) := by
        rw [beTo, ← List.append_assoc, bv_append, beAt_cell]
        exact ho'
      have HO := Lib.hid ho2
      clear ho2 ho' hg ho hr
      go_wp2
      go_roundw
      case rel => exact ⟨k + 1, by omega, by go_num, HO.out, hbel'⟩
      case measure => simp [intOf]; omega
    · obtain rfl : k = size := by omega
      have HO := Lib.hid ho
      clear ho
      go_wp2
      go_ret
      exact ⟨_, rfl, HO.out, hbel⟩
set_option maxHeartbeats 400000 in
theorem put_num_not (v : Value) (x n : Int) (w : World) (h : n < 1 ∨ 8 < n) :
    Calls Try.prog 8 #[v, .int .u64 x, .int .i64 n] w fun e w' => e = .returned v ∧ w = w' := by
  go_enter Try.func8, Try.ntmps8
  go_wp2_with fail
  refine (fits_no _ _ h).mono ?_
  rintro e w1 ⟨rfl, rfl⟩
  go_wp2
  go_ret
  exact ⟨rfl, rfl⟩

set_option maxHeartbeats 400000 in
theorem put_text (base : Nat) (v : Value) (l : List UInt8) (s : ByteArray) (w : World) (hs : s.size ≤ 9223372036854775807)
    (hown : w.ownsRow base 5 1 v l.length (bv l)) (hb : base ≤ w.heap.size) (hl : l.length ≤ 900000) :
    Calls Try.prog 10 #[v, .string s] w fun e w' =>
      ∃ v', e = .returned v' ∧ w'.ownsRow base 5 1 v' (l.length + 2 + (cutText s).size) (bv (l ++ be 2 (cutText s).size ++ (cutText s).data.toList)) ∧ Below base w w' := by
  obtain ⟨i0, hi0, hz0, hz1, hz2⟩ := info_parts byte_info
  by_cases hlt : s.size ≤ 65535
  · have hcut : cutText s = s := by
      rw [cutText, Nat.min_eq_left hlt]; exact ByteArray.extract_zero_size
    rw [hcut]
    clear hcut
    go_enter Try.func10, Try.ntmps10
    go_wp2_with fail
    refine (put_num base v l s.size 2 w (by omega) (by omega) hown hb (by omega)).mono ?_
    rintro e w1 ⟨v1, rfl, ho1, hb1⟩
    have hbs := hb1.size
    go_wp2_with (at_builtin; refine Lib.wpList_append_own_string _ rfl (.tmp 14) (.tmp 15) 22 9 rfl base 5 i0 Try.underlying22 Try.underlying9 hi0 hz0 hz1 hz2 v1 (l.length + 2) _ rfl ho1 s rfl ?c1 ?c2 ?c3 ?_)
    case c1 => simp only [maxLen]; omega
    case c2 => omega
    case c3 => omega
    intro v2 w2 ho2 hg2 _
    have hbel : Below base w w2 := hb1.grown hg2 (by omega) (fun k hk => (ho1.lt k hk).1)
    have e1 : Lib.strCells s = bv s.data.toList := rfl
    rw [e1, ← bv_append] at ho2
    have HO := Lib.hid ho2
    clear ho2 hg2 ho1 e1
    go_wp2
    go_ret
    exact ⟨_, rfl, HO.out, hbel⟩
  · have hmin : min s.size 65535 = 65535 := by omega
    have hcut : cutText s = s.extract 0 65535 := by rw [cutText, hmin]
    have hsz : (s.extract 0 65535).size = 65535 := by simp; omega
    rw [hcut]
    have HS := Lib.hid hsz
    clear hcut hmin hsz
    go_enter Try.func10, Try.ntmps10
    go_wp2_with fail
    rw [show ((min 65535 s.size : Nat) : Int) = ((s.extract 0 65535).size : Nat) by rw [HS.out]; omega]
    refine (put_num base v l (s.extract 0 65535).size 2 w (by omega) (by omega) hown hb (by omega)).mono ?_
    rintro e w1 ⟨v1, rfl, ho1, hb1⟩
    have hbs := hb1.size
    go_wp2_with (at_builtin; refine Lib.wpList_append_own_string _ rfl (.tmp 14) (.tmp 15) 22 9 rfl base 5 i0 Try.underlying22 Try.underlying9 hi0 hz0 hz1 hz2 v1 (l.length + 2) _ rfl ho1 (s.extract 0 65535) rfl ?c1 ?c2 ?c3 ?_)
    case c1 => rw [HS.out]; simp only [maxLen]; omega
    case c2 => rw [HS.out]; omega
    case c3 => omega
    intro v2 w2 ho2 hg2 _
    have hbel : Below base w w2 := hb1.grown hg2 (by omega) (fun k hk => (ho1.lt k hk).1)
    have e1 : Lib.strCells (s.extract 0 65535) = bv (s.extract 0 65535).data.toList := rfl
    rw [e1, ← bv_append] at ho2
    have HO := Lib.hid ho2
    clear ho2 hg2 ho1 e1
    go_wp2
    go_ret
    exact ⟨_, rfl, by simpa using HO.out, hbel⟩

set_option maxHeartbeats 400000 in
theorem read_num_core (g : Nat) (raw s' : ByteArray) (e1 : Int) (n : Nat) (w : World) (h1 : 1 ≤ n) (h8 : n ≤ 8) (hr : raw.size ≤ 8)
    (C : Hid (Calls Try.prog 18 #[.pointer (some ⟨g, 0, none⟩), .int .i64 n] w fun e w' => e = .returned (.string raw) ∧ RdTo w g s' e1 w')) :
    Calls Try.prog 14 #[.pointer (some ⟨g, 0, none⟩), .int .i64 n] w fun e w' => e = .returned (.int .u64 (ofBe raw.data.toList)) ∧ RdTo w g s' e1 w' := by
  go_enter Try.func14, Try.ntmps14
  go_wp2_with fail
  refine (fits_yes _ _ (by omega) (by omega)).mono ?_
  rintro e w1 ⟨rfl, rfl⟩
  go_wp2_with fail
  refine C.out.mono ?_
  rintro e w1 ⟨rfl, hto⟩
  go_wp2_with fail
  go_loop [6, 18] (fun t i => ∃ k : Nat, k ≤ raw.size ∧ i = .int .i64 k ∧ t = .int .u64 (ofBe (raw.data.toList.take k))) (fun _ i => raw.size - (intOf i).toNat)
  case atStart => exact ⟨0, Nat.zero_le _, rfl, rfl⟩
  case round =>
    obtain ⟨k, hk, rfl, rfl⟩ := hrel
    by_cases hlt : k < raw.size
    · have HB := Lib.hid (ofBe_take raw k hlt hr)
      go_wp2
      go_round
      case rel => exact ⟨k + 1, by omega, by go_num, by rw [HB.out]⟩
      case measure => simp [intOf]; omega
    · obtain rfl : k = raw.size := by omega
      have HB : Hid (raw.data.toList.take raw.size = raw.data.toList) := List.take_of_length_le (by simp)
      go_wp2
      go_ret
      exact ⟨ret_int (by rw [HB.out]), hto⟩

theorem read_num (g : Nat) (s : ByteArray) (e0 : Int) (n : Nat) (w : World) (h : Rd w g s e0) (h1 : 1 ≤ n) (h8 : n ≤ 8) (hn : n ≤ s.size) :
    Calls Try.prog 14 #[.pointer (some ⟨g, 0, none⟩), .int .i64 n] w fun e w' => e = .returned (.int .u64 (ofBe (s.extract 0 n).data.toList)) ∧ RdTo w g (s.extract n s.size) e0 w' :=
  read_num_core g _ _ e0 n w h1 h8 (by simp; omega) (Lib.hid (raw_some g s e0 n w h hn))

theorem read_num_short (g : Nat) (s : ByteArray) (e0 : Int) (n : Nat) (w : World) (h : Rd w g s e0) (hs : e0 ≠ 0 → s = ByteArray.empty) (h1 : 1 ≤ n) (h8 : n ≤ 8) (hn : s.size < n) :
    Calls Try.prog 14 #[.pointer (some ⟨g, 0, none⟩), .int .i64 n] w fun e w' => e = .returned (.int .u64 0) ∧ RdTo w g ByteArray.empty (met e0 10) w' :=
  read_num_core g ByteArray.empty _ _ n w h1 h8 (by simp) (Lib.hid (raw_short g s e0 n w h hs (by omega)))

set_option maxHeartbeats 400000 in
theorem read_num_not (g : Nat) (s : ByteArray) (e0 n : Int) (w : World) (h : Rd w g s e0) (hs : e0 ≠ 0 → s = ByteArray.empty) (hn : n < 1 ∨ 8 < n) :
    Calls Try.prog 14 #[.pointer (some ⟨g, 0, none⟩), .int .i64 n] w fun e w' => e = .returned (.int .u64 0) ∧ RdTo w g ByteArray.empty (met e0 2) w' := by
  have C := Lib.hid (refuse_any g s e0 2 w h hs)
  clear hs
  go_enter Try.func14, Try.ntmps14
  go_wp2_with fail
  refine (fits_no _ _ hn).mono ?_
  rintro e w1 ⟨rfl, rfl⟩
  go_wp2_with fail
  refine C.out.mono ?_
  rintro e w1 ⟨rfl, hto⟩
  go_wp2
  go_ret
  exact ⟨rfl, hto⟩

/-- Text, by what its Num of two and its Raw do: refused, if the number is above most. -/
theorem read_text_big (g : Nat) (e0 : Int) (w : World) (k : Nat) (most : Int) (s1 : ByteArray) (hs : e0 ≠ 0 → s1 = ByteArray.empty) (hk : k ≤ 65535) (hm : most < k)
    (C : Hid (Calls Try.prog 14 #[.pointer (some ⟨g, 0, none⟩), .int .i64 (2 : Nat)] w fun e w' => e = .returned (.int .u64 k) ∧ RdTo w g s1 e0 w')) :
    Calls Try.prog 16 #[.pointer (some ⟨g, 0, none⟩), .int .i64 most] w fun e w' => e = .returned (.string ByteArray.empty) ∧ RdTo w g ByteArray.empty (met e0 3) w' := by
  go_enter Try.func16, Try.ntmps16
  go_wp2_with fail
  refine C.out.mono ?_
  rintro e w1 ⟨rfl, hto⟩
  go_wp2_with fail
  refine (refuse_any g s1 e0 3 w1 hto.1 hs).mono ?_
  rintro e w2 ⟨rfl, hto2⟩
  go_wp2
  go_ret
  exact ⟨rfl, hto.trans hto2⟩

theorem read_text_ok (g : Nat) (e0 e2 : Int) (w : World) (k : Nat) (most : Int) (s1 s2 out : ByteArray) (hk : k ≤ 65535) (hm : k ≤ most)
    (C : Hid (Calls Try.prog 14 #[.pointer (some ⟨g, 0, none⟩), .int .i64 (2 : Nat)] w fun e w' => e = .returned (.int .u64 k) ∧ RdTo w g s1 e0 w'))
    (D : Hid (∀ w1, Rd w1 g s1 e0 → Calls Try.prog 18 #[.pointer (some ⟨g, 0, none⟩), .int .i64 k] w1 fun e w' => e = .returned (.string out) ∧ RdTo w1 g s2 e2 w')) :
    Calls Try.prog 16 #[.pointer (some ⟨g, 0, none⟩), .int .i64 most] w fun e w' => e = .returned (.string out) ∧ RdTo w g s2 e2 w' := by
  go_enter Try.func16, Try.ntmps16
  go_wp2_with fail
  refine C.out.mono ?_
  rintro e w1 ⟨rfl, hto⟩
  go_wp2_with fail
  refine (D.out w1 hto.1).mono ?_
  rintro e w2 ⟨rfl, hto2⟩
  go_wp2
  go_ret
  exact ⟨rfl, hto.trans hto2⟩

end Go.Proofs.Ytpmidopfdfplmaa
