/- Over XGenA's words: what pack.Text and the document's Text (carcanetref01) put. -/
import Derived.Test.YtkhiejdceefgfaaPkN
namespace Go.Proofs.Ytkhiejdceefgfaa
open Go.RowKit

/-- A text, as it is put. -/
def encS (s : ByteArray) : List UInt8 := be 2 s.size ++ s.data.toList
theorem encS_length (s : ByteArray) : (encS s).length = 2 + s.size := by simp [encS, be_length]

set_option maxHeartbeats 400000 in
theorem put_text (base : Nat) (v : Value) (l : List UInt8) (s : ByteArray) (w : World) (hs : s.size ≤ 9223372036854775807)
    (hown : w.ownsRow base 5 1 v l.length (bv l)) (hb : base ≤ w.heap.size) (hl : l.length ≤ 900000) :
    Calls Try.prog 24 #[v, .string s] w fun e w' =>
      ∃ v', e = .returned v' ∧ w'.ownsRow base 5 1 v' (l.length + 2 + (cutText s).size) (bv (l ++ be 2 (cutText s).size ++ (cutText s).data.toList)) ∧ Below base w w' := by
  obtain ⟨i0, hi0, hz0, hz1, hz2⟩ := info_parts byte_info
  by_cases hlt : s.size ≤ 65535
  · have hcut : cutText s = s := by
      rw [cutText, Nat.min_eq_left hlt]; exact ByteArray.extract_zero_size
    rw [hcut]
    clear hcut
    go_enter Try.func24, Try.ntmps24
    go_wp2_with fail
    refine (put_num base v l s.size 2 w (by omega) (by omega) hown hb (by omega)).mono ?_
    rintro e w1 ⟨v1, rfl, ho1, hb1⟩
    have hbs := hb1.size
    go_wp2_with (at_builtin; refine Lib.wpList_append_own_string _ rfl (.tmp 14) (.tmp 15) 27 9 rfl base 5 i0 Try.underlying27 Try.underlying9 hi0 hz0 hz1 hz2 v1 (l.length + 2) _ rfl ho1 s rfl ?c1 ?c2 ?c3 ?_)
    case c1 => simp only [maxLen]; omega
    case c2 => omega
    case c3 => omega
    intro v2 w2 ho2 hg2 _
    have hbel : Below base w w2 := hb1.grown hg2 (by omega) (fun k hk => (ho1.lt k hk).1)
    have e1 : Lib.strCells s = bv s.data.toList := rfl
    rw [e1, ← bv_append] at ho2
    have HO := Lib.hid ho2
    clear ho2 hg2 ho1 e1
    go_wp2
    go_ret
    exact ⟨_, rfl, HO.out, hbel⟩
  · have hmin : min s.size 65535 = 65535 := by omega
    have hcut : cutText s = s.extract 0 65535 := by rw [cutText, hmin]
    have hsz : (s.extract 0 65535).size = 65535 := by simp; omega
    rw [hcut]
    have HS := Lib.hid hsz
    clear hcut hmin hsz
    go_enter Try.func24, Try.ntmps24
    go_wp2_with fail
    rw [show ((min 65535 s.size : Nat) : Int) = ((s.extract 0 65535).size : Nat) by rw [HS.out]; omega]
    refine (put_num base v l (s.extract 0 65535).size 2 w (by omega) (by omega) hown hb (by omega)).mono ?_
    rintro e w1 ⟨v1, rfl, ho1, hb1⟩
    have hbs := hb1.size
    go_wp2_with (at_builtin; refine Lib.wpList_append_own_string _ rfl (.tmp 14) (.tmp 15) 27 9 rfl base 5 i0 Try.underlying27 Try.underlying9 hi0 hz0 hz1 hz2 v1 (l.length + 2) _ rfl ho1 (s.extract 0 65535) rfl ?c1 ?c2 ?c3 ?_)
    case c1 => rw [HS.out]; simp only [maxLen]; omega
    case c2 => rw [HS.out]; omega
    case c3 => omega
    intro v2 w2 ho2 hg2 _
    have hbel : Below base w w2 := hb1.grown hg2 (by omega) (fun k hk => (ho1.lt k hk).1)
    have e1 : Lib.strCells (s.extract 0 65535) = bv (s.extract 0 65535).data.toList := rfl
    rw [e1, ← bv_append] at ho2
    have HO := Lib.hid ho2
    clear ho2 hg2 ho1 e1
    go_wp2
    go_ret
    exact ⟨_, rfl, by simpa using HO.out, hbel⟩

set_option maxHeartbeats 400000 in
theorem ref_text_put (A : Option Addr) (l : List UInt8) (cap : Nat) (s : ByteArray) (w : World) (hb : BytesAt w (.slice A l.length cap) l) (hl : l.length ≤ 3000) (hs : s.size ≤ 70000) :
    Calls Try.prog 26 #[.slice A l.length cap, .string s] w fun e w' =>
      ∃ v', e = .returned v' ∧ w'.ownsRow w.heap.size 5 1 v' (l ++ encS (cutText s)).length (bv (l ++ encS (cutText s))) ∧ Below w.heap.size w w' := by
  have HB := Lib.hid hb
  clear hb
  by_cases hlt : s.size ≤ 65535
  · have hcut : cutText s = s := by
      rw [cutText, Nat.min_eq_left hlt]; exact ByteArray.extract_zero_size
    rw [hcut]
    clear hcut
    go_enter Try.func26, Try.ntmps26
    go_wp2_with fail
    refine (ref_num_put A l cap s.size 2 w HB.out (by omega) (by omega) hl (by omega)).mono ?_
    rintro e w1 ⟨v1, rfl, ho1, hb1⟩
    obtain ⟨vs, w2, hcv, hby, hbw⟩ := conv_str w1 s
    have HBY := Lib.hid hby
    have HO2 := Lib.hid (ho1.kept (row := none) ⟨hbw.os, hbw.tape, hbw.output, hbw.size, fun k hk _ => hbw.block k hk⟩ (by cases v1.ownBlock <;> simp))
    have zz := hb1.size
    have HB2 := Lib.hid (hb1.trans (hbw.mono zz))
    have hsl : (l ++ be 2 s.size).length = l.length + 2 := by simp [be_length]
    have z2 := hbw.size
    have HSL := Lib.hid hsl
    clear ho1 hb1 hby hbw hsl
    go_wp2_with (at_builtin; refine wpList_append_bytes rfl (.tmp 14) (.tmp 16) rfl w.heap.size _ (l ++ be 2 s.size).length _ rfl HO2.out _ s.data.toList rfl HBY.out ?c2 ?c3 ?_)
    case c2 => rw [HSL.out]; simp; omega
    case c3 => omega
    intro v3 w3 ho3 hg3
    have hB3 := HB2.out.grown hg3 (by omega) (fun k hk => (HO2.out.lt k hk).1)
    have HO3 : Hid (w3.ownsRow w.heap.size 5 1 v3 (l ++ encS s).length (bv (l ++ encS s))) := by
      rw [encS, ← List.append_assoc, bv_append, List.length_append]
      refine Lib.hid ?_
      simpa using ho3
    have HB3 := Lib.hid hB3
    clear ho3 hg3 hB3 hcv
    go_wp2
    go_ret
    exact ⟨_, rfl, HO3.out, HB3.out⟩
  · have hmin : min s.size 65535 = 65535 := by omega
    have hcut : cutText s = s.extract 0 65535 := by rw [cutText, hmin]
    have hsz : (s.extract 0 65535).size = 65535 := by simp; omega
    rw [hcut]
    have HS := Lib.hid hsz
    clear hcut hmin hsz
    go_enter Try.func26, Try.ntmps26
    go_wp2_with fail
    rw [show ((min 65535 s.size : Nat) : Int) = ((s.extract 0 65535).size : Nat) by rw [HS.out]; omega]
    refine (ref_num_put A l cap (s.extract 0 65535).size 2 w HB.out (by omega) (by omega) hl (by rw [HS.out]; omega)).mono ?_
    rintro e w1 ⟨v1, rfl, ho1, hb1⟩
    obtain ⟨vs, w2, hcv, hby, hbw⟩ := conv_str w1 (s.extract 0 65535)
    have HBY := Lib.hid hby
    have HO2 := Lib.hid (ho1.kept (row := none) ⟨hbw.os, hbw.tape, hbw.output, hbw.size, fun k hk _ => hbw.block k hk⟩ (by cases v1.ownBlock <;> simp))
    have zz := hb1.size
    have HB2 := Lib.hid (hb1.trans (hbw.mono zz))
    have hsl : (l ++ be 2 (s.extract 0 65535).size).length = l.length + 2 := by simp [be_length]
    have hsl2 : (s.extract 0 65535).data.toList.length = 65535 := by
      rw [Array.length_toList]
      exact HS.out
    have z2 := hbw.size
    have HSL := Lib.hid hsl
    have HSL2 := Lib.hid hsl2
    clear ho1 hb1 hby hbw hsl hsl2
    go_wp2_with (at_builtin; refine wpList_append_bytes rfl (.tmp 14) (.tmp 16) rfl w.heap.size _ (l ++ be 2 (s.extract 0 65535).size).length _ rfl HO2.out _ (s.extract 0 65535).data.toList rfl HBY.out ?c2 ?c3 ?_)
    case c2 => rw [HSL.out, HSL2.out]; omega
    case c3 => omega
    intro v3 w3 ho3 hg3
    have hB3 := HB2.out.grown hg3 (by omega) (fun k hk => (HO2.out.lt k hk).1)
    have HO3 : Hid (w3.ownsRow w.heap.size 5 1 v3 (l ++ encS (s.extract 0 65535)).length (bv (l ++ encS (s.extract 0 65535)))) := by
      rw [encS, ← List.append_assoc, bv_append, List.length_append]
      refine Lib.hid ?_
      simpa using ho3
    have HB3 := Lib.hid hB3
    clear ho3 hg3 hB3 hcv
    go_wp2
    go_ret
    exact ⟨_, rfl, HO3.out, HB3.out⟩
end Go.Proofs.Ytkhiejdceefgfaa
