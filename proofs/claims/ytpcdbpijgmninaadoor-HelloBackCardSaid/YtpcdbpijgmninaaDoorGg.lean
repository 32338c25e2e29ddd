/- Over XGenA's words: what pack.Text and the document's Text (carcanetref01) put. Plain mathematics of readers: what was put is read, and what was read was put. Plain mathematics of package label: digits, numbers and bytes as digits, names and keys. It speaks of no program. Strings as lists of bytes. -/
import Derived.Test.YtpcdbpijgmninaaDoorGd
import Derived.Test.YtpcdbpijgmninaaDoorGf
import Derived.Test.YtpcdbpijgmninaaDoorGa
namespace Go.Proofs.YtpcdbpijgmninaaDoor
set_option maxRecDepth 100000
open Go.RowKit

/-- A text, as it is put. -/
def encS (s : ByteArray) : List UInt8 := be 2 s.size ++ s.data.toList
theorem encS_length (s : ByteArray) : (encS s).length = 2 + s.size := by simp [encS, be_length]

set_option maxHeartbeats 400000 in
theorem put_text (base : Nat) (v : Value) (l : List UInt8) (s : ByteArray) (w : World) (hs : s.size ≤ 9223372036854775807)
    (hown : w.ownsRow base 5 1 v l.length (bv l)) (hb : base ≤ w.heap.size) (hl : l.length ≤ 900000) :
    Calls Tryd.prog 71 #[v, .string s] w fun e w' =>
      ∃ v', e = .returned v' ∧ w'.ownsRow base 5 1 v' (l.length + 2 + (cutText s).size) (bv (l ++ be 2 (cutText s).size ++ (cutText s).data.toList)) ∧ Below base w w' := by
  obtain ⟨i0, hi0, hz0, hz1, hz2⟩ := info_parts byte_info
  by_cases hlt : s.size ≤ 65535
  · have hcut : cutText s = s := by
      rw [cutText, Nat.min_eq_left hlt]; exact ByteArray.extract_zero_size
    rw [hcut]
    clear hcut
    go_enter Tryd.func71, Tryd.ntmps71
    go_wp2_with fail
    refine (put_num base v l s.size 2 w (by omega) (by omega) hown hb (by omega)).mono ?_
    rintro e w1 ⟨v1, rfl, ho1, hb1⟩
    have hbs := hb1.size
    go_wp2_with (at_builtin; refine Lib.wpList_append_own_string _ rfl (.tmp 14) (.tmp 15) 42 9 rfl base 5 i0 Tryd.underlying42 Tryd.underlying9 hi0 hz0 hz1 hz2 v1 (l.length + 2) _ rfl ho1 s rfl ?c1 ?c2 ?c3 ?_)
    case c1 => simp only [maxLen]; omega
    case c2 => omega
    case c3 => omega
    intro v2 w2 ho2 hg2 _
    have hbel : Below base w w2 := hb1.grown hg2 (by omega) (fun k hk => (ho1.lt k hk).1)
    have e1 : Lib.strCells s = bv s.data.toList := rfl
    rw [e1, ← bv_append] at ho2
    have HO := Lib.hid ho2
    clear ho2 hg2 ho1 e1
    go_wp2
    go_ret
    exact ⟨_, rfl, HO.out, hbel⟩
  · have hmin : min s.size 65535 = 65535 := by omega
    have hcut : cutText s = s.extract 0 65535 := by rw [cutText, hmin]
    have hsz : (s.extract 0 65535).size = 65535 := by simp; omega
    rw [hcut]
    have HS := Lib.hid hsz
    clear hcut hmin hsz
    go_enter Tryd.func71, Tryd.ntmps71
    go_wp2_with fail
    rw [show ((min 65535 s.size : Nat) : Int) = ((s.extract 0 65535).size : Nat) by rw [HS.out]; omega]
    refine (put_num base v l (s.extract 0 65535).size 2 w (by omega) (by omega) hown hb (by omega)).mono ?_
    rintro e w1 ⟨v1, rfl, ho1, hb1⟩
    have hbs := hb1.size
    go_wp2_with (at_builtin; refine Lib.wpList_append_own_string _ rfl (.tmp 14) (.tmp 15) 42 9 rfl base 5 i0 Tryd.underlying42 Tryd.underlying9 hi0 hz0 hz1 hz2 v1 (l.length + 2) _ rfl ho1 (s.extract 0 65535) rfl ?c1 ?c2 ?c3 ?_)
    case c1 => rw [HS.out]; simp only [maxLen]; omega
    case c2 => rw [HS.out]; omega
    case c3 => omega
    intro v2 w2 ho2 hg2 _
    have hbel : Below base w w2 := hb1.grown hg2 (by omega) (fun k hk => (ho1.lt k hk).1)
    have e1 : Lib.strCells (s.extract 0 65535) = bv (s.extract 0 65535).data.toList := rfl
    rw [e1, ← bv_append] at ho2
    have HO := Lib.hid ho2
    clear ho2 hg2 ho1 e1
    go_wp2
    go_ret
    exact ⟨_, rfl, by simpa using HO.out, hbel⟩

set_option maxHeartbeats 400000 in
theorem ref_text_put (A : Option Addr) (l : List UInt8) (cap : Nat) (s : ByteArray) (w : World) (hb : BytesAt w (.slice A l.length cap) l) (hl : l.length ≤ 3000) (hs : s.size ≤ 70000) :
    Calls Tryd.prog 36 #[.slice A l.length cap, .string s] w fun e w' =>
      ∃ v', e = .returned v' ∧ w'.ownsRow w.heap.size 5 1 v' (l ++ encS (cutText s)).length (bv (l ++ encS (cutText s))) ∧ Below w.heap.size w w' := by
  have HB := Lib.hid hb
  clear hb
  by_cases hlt : s.size ≤ 65535
  · have hcut : cutText s = s := by
      rw [cutText, Nat.min_eq_left hlt]; exact ByteArray.extract_zero_size
    rw [hcut]
    clear hcut
    go_enter Tryd.func36, Tryd.ntmps36
    go_wp2_with fail
    refine (ref_num_put A l cap s.size 2 w HB.out (by omega) (by omega) hl (by omega)).mono ?_
    rintro e w1 ⟨v1, rfl, ho1, hb1⟩
    obtain ⟨vs, w2, hcv, hby, hbw⟩ := conv_str w1 s
    have HBY := Lib.hid hby
    have HO2 := Lib.hid (ho1.kept (row := none) ⟨hbw.os, hbw.tape, hbw.output, hbw.size, fun k hk _ => hbw.block k hk⟩ (by cases v1.ownBlock <;> simp))
    have zz := hb1.size
    have HB2 := Lib.hid (hb1.trans (hbw.mono zz))
    have hsl : (l ++ be 2 s.size).length = l.length + 2 := by simp [be_length]
    have z2 := hbw.size
    have HSL := Lib.hid hsl
    clear ho1 hb1 hby hbw hsl
    go_wp2_with (at_builtin; refine wpList_append_bytes rfl (.tmp 14) (.tmp 16) rfl w.heap.size _ (l ++ be 2 s.size).length _ rfl HO2.out _ s.data.toList rfl HBY.out ?c2 ?c3 ?_)
    case c2 => rw [HSL.out]; simp; omega
    case c3 => omega
    intro v3 w3 ho3 hg3
    have hB3 := HB2.out.grown hg3 (by omega) (fun k hk => (HO2.out.lt k hk).1)
    have HO3 : Hid (w3.ownsRow w.heap.size 5 1 v3 (l ++ encS s).length (bv (l ++ encS s))) := by
      rw [encS, ← List.append_assoc, bv_append, List.length_append]
      refine Lib.hid ?_
      simpa using ho3
    have HB3 := Lib.hid hB3
    clear ho3 hg3 hB3 hcv
    go_wp2
    go_ret
    exact ⟨_, rfl, HO3.out, HB3.out⟩
  · have hmin : min s.size 65535 = 65535 := by omega
    have hcut : cutText s = s.extract 0 65535 := by rw [cutText, hmin]
    have hsz : (s.extract 0 65535).size = 65535 := by simp; omega
    rw [hcut]
    have HS := Lib.hid hsz
    clear hcut hmin hsz
    go_enter Tryd.func36, Tryd.ntmps36
    go_wp2_with fail
    rw [show ((min 65535 s.size : Nat) : Int) = ((s.extract 0 65535).size : Nat) by rw [HS.out]; omega]
    refine (ref_num_put A l cap (s.extract 0 65535).size 2 w HB.out (by omega) (by omega) hl (by rw [HS.out]; omega)).mono ?_
    rintro e w1 ⟨v1, rfl, ho1, hb1⟩
    obtain ⟨vs, w2, hcv, hby, hbw⟩ := conv_str w1 (s.extract 0 65535)
    have HBY := Lib.hid hby
    have HO2 := Lib.hid (ho1.kept (row := none) ⟨hbw.os, hbw.tape, hbw.output, hbw.size, fun k hk _ => hbw.block k hk⟩ (by cases v1.ownBlock <;> simp))
    have zz := hb1.size
    have HB2 := Lib.hid (hb1.trans (hbw.mono zz))
    have hsl : (l ++ be 2 (s.extract 0 65535).size).length = l.length + 2 := by simp [be_length]
    have hsl2 : (s.extract 0 65535).data.toList.length = 65535 := by
      rw [Array.length_toList]
      exact HS.out
    have z2 := hbw.size
    have HSL := Lib.hid hsl
    have HSL2 := Lib.hid hsl2
    clear ho1 hb1 hby hbw hsl hsl2
    go_wp2_with (at_builtin; refine wpList_append_bytes rfl (.tmp 14) (.tmp 16) rfl w.heap.size _ (l ++ be 2 (s.extract 0 65535).size).length _ rfl HO2.out _ (s.extract 0 65535).data.toList rfl HBY.out ?c2 ?c3 ?_)
    case c2 => rw [HSL.out, HSL2.out]; omega
    case c3 => omega
    intro v3 w3 ho3 hg3
    have hB3 := HB2.out.grown hg3 (by omega) (fun k hk => (HO2.out.lt k hk).1)
    have HO3 : Hid (w3.ownsRow w.heap.size 5 1 v3 (l ++ encS (s.extract 0 65535)).length (bv (l ++ encS (s.extract 0 65535)))) := by
      rw [encS, ← List.append_assoc, bv_append, List.length_append]
      refine Lib.hid ?_
      simpa using ho3
    have HB3 := Lib.hid hB3
    clear ho3 hg3 hB3 hcv
    go_wp2
    go_ret
    exact ⟨_, rfl, HO3.out, HB3.out⟩
end Go.Proofs.YtpcdbpijgmninaaDoor

namespace Go.Proofs.YtpcdbpijgmninaaDoor
set_option maxRecDepth 100000
open Go.RowKit

theorem ofBe_from (l : List UInt8) : ∀ n : Nat, l.foldl (fun n c => n * 256 + c.toNat) n = n * 256 ^ l.length + ofBe l := by
  induction l with
  | nil => intro n; simp [ofBe]
  | cons c l ih =>
    intro n
    simp only [ofBe, List.foldl_cons, List.length_cons]
    rw [ih, ih (0 * 256 + c.toNat), Nat.pow_succ]
    have e1 : (n * 256 + c.toNat) * 256 ^ l.length = n * (256 ^ l.length * 256) + c.toNat * 256 ^ l.length := by
      rw [Nat.add_mul, Nat.mul_assoc, Nat.mul_comm 256]
    rw [e1]
    have e2 : (0 * 256 + c.toNat) * 256 ^ l.length = c.toNat * 256 ^ l.length := by rw [Nat.zero_mul, Nat.zero_add]
    rw [e2]
    omega
theorem ofBe_cons (c : UInt8) (l : List UInt8) : ofBe (c :: l) = c.toNat * 256 ^ l.length + ofBe l := by
  show (c :: l).foldl (fun n c => n * 256 + c.toNat) 0 = _
  rw [List.foldl_cons, ofBe_from, Nat.zero_mul, Nat.zero_add]
theorem ofBe_be (k x : Nat) : ofBe (be k x) = x % 256 ^ k := by
  induction k with
  | zero => simp [be, beTo, ofBe, Nat.mod_one]
  | succ k ih =>
    rw [be_succ, ofBe_cons, ih, be_length]
    have h : (UInt8.ofNat (x / 256 ^ k % 256)).toNat = x / 256 ^ k % 256 := by
      simp only [UInt8.toNat_ofNat']; omega
    rw [h, Nat.pow_succ, Nat.mod_mul, Nat.mul_comm (x / 256 ^ k % 256), Nat.add_comm]
theorem ofBe_inj (a b : List UInt8) (hl : a.length = b.length) (h : ofBe a = ofBe b) : a = b := by
  induction a generalizing b with
  | nil => exact (List.length_eq_zero_iff.1 hl.symm).symm
  | cons c a ih =>
    cases b with
    | nil => simp at hl
    | cons d b =>
      simp only [List.length_cons, Nat.add_right_cancel_iff] at hl
      rw [ofBe_cons, ofBe_cons, hl] at h
      have ha := ofBe_lt a
      rw [hl] at ha
      have hb := ofBe_lt b
      have hd : c.toNat = d.toNat := by
        have h1 : (c.toNat * 256 ^ b.length + ofBe a) / 256 ^ b.length = c.toNat := by
          rw [Nat.mul_comm, Nat.mul_add_div (Nat.pow_pos (by decide)), Nat.div_eq_of_lt ha, Nat.add_zero]
        have h2 : (d.toNat * 256 ^ b.length + ofBe b) / 256 ^ b.length = d.toNat := by
          rw [Nat.mul_comm, Nat.mul_add_div (Nat.pow_pos (by decide)), Nat.div_eq_of_lt hb, Nat.add_zero]
        rw [← h1, ← h2, h]
      have hcd : c = d := UInt8.toNat_inj.1 hd
      subst hcd
      rw [ih b hl (by omega)]
theorem be_ofBe (l : List UInt8) : be l.length (ofBe l) = l :=
  ofBe_inj _ _ (be_length _ _) (by rw [ofBe_be, Nat.mod_eq_of_lt (ofBe_lt l)])

/-- What was put is read. -/
theorem raw_put (t r : List UInt8) (n : Nat) (hn : n = t.length) : rawO ⟨t ++ r, 0⟩ n = t ∧ rawS ⟨t ++ r, 0⟩ n = ⟨r, 0⟩ := by
  subst hn
  rw [rawO_some rfl (by simp), rawS_some rfl (by simp)]
  simp
theorem num_put (k x : Nat) (r : List UInt8) (hx : x < 256 ^ k) : numO ⟨be k x ++ r, 0⟩ k = x ∧ rawS ⟨be k x ++ r, 0⟩ k = ⟨r, 0⟩ := by
  obtain ⟨h1, h2⟩ := raw_put (be k x) r k (be_length k x).symm
  exact ⟨by rw [numO, h1, ofBe_be, Nat.mod_eq_of_lt hx], h2⟩
theorem text_put (n r : List UInt8) (most : Nat) (hn : n.length ≤ most) (h16 : n.length ≤ 65535) : textO ⟨encS ⟨n.toArray⟩ ++ r, 0⟩ most = n ∧ textS ⟨encS ⟨n.toArray⟩ ++ r, 0⟩ most = ⟨r, 0⟩ := by
  have e : encS ⟨n.toArray⟩ ++ r = be 2 n.length ++ (n ++ r) := by
    show be 2 n.length ++ n.toArray.toList ++ r = _
    simp
  rw [e]
  obtain ⟨h1, h2⟩ := num_put 2 n.length (n ++ r) (by omega)
  obtain ⟨h3, h4⟩ := raw_put n r n.length rfl
  have hm : ¬ most < n.length := by omega
  constructor
  · rw [textO, h2, if_neg (by simp), h1, if_neg hm, h3]
  · rw [textS, h2, if_neg (by simp), h1, if_neg hm, h4]
/-- What was read was put. -/
theorem raw_back {s : RS} {n : Nat} (h : (rawS s n).e = 0) : s.e = 0 ∧ (rawO s n).length = n ∧ s.l = rawO s n ++ (rawS s n).l := by
  by_cases h0 : s.e = 0
  · by_cases hn : n ≤ s.l.length
    · rw [rawO_some h0 hn, rawS_some h0 hn]
      exact ⟨h0, by rw [List.length_take]; omega, (List.take_append_drop n s.l).symm⟩
    · rw [rawS_short h0 (by omega)] at h
      exact absurd h (by decide)
  · rw [rawS_met h0] at h
    exact absurd h h0
theorem num_back {s : RS} {n : Nat} (h : (rawS s n).e = 0) : s.e = 0 ∧ numO s n < 256 ^ n ∧ s.l = be n (numO s n) ++ (rawS s n).l := by
  obtain ⟨h1, h2, h3⟩ := raw_back h
  have e := be_ofBe (rawO s n)
  rw [h2] at e
  exact ⟨h1, numO_lt s n, by rw [numO, e]; exact h3⟩
theorem text_back {s : RS} {most : Nat} (h : (textS s most).e = 0) : s.e = 0 ∧ (textO s most).length ≤ most ∧ (textO s most).length ≤ 65535 ∧ s.l = encS ⟨(textO s most).toArray⟩ ++ (textS s most).l := by
  by_cases h0 : (rawS s 2).e = 0
  · obtain ⟨h1, h2, h3⟩ := num_back h0
    by_cases hm : most < numO s 2
    · rw [textS, if_neg (by simp [h0]), if_pos hm] at h
      exact absurd h (by decide)
    · have e1 : textO s most = rawO (rawS s 2) (numO s 2) := by rw [textO, if_neg (by simp [h0]), if_neg hm]
      have e2 : textS s most = rawS (rawS s 2) (numO s 2) := by rw [textS, if_neg (by simp [h0]), if_neg hm]
      rw [e2] at h
      obtain ⟨h4, h5, h6⟩ := raw_back h
      rw [e1, e2, h5]
      refine ⟨h1, by omega, numO_u16 s, ?_⟩
      rw [h3, h6]
      show _ = be 2 (rawO (rawS s 2) (numO s 2)).length ++ (rawO (rawS s 2) (numO s 2)).toArray.toList ++ _
      rw [h5]
      simp
  · rw [textS, if_pos h0] at h
    exact absurd h h0
theorem end_back {s : RS} (h : endE s = 0) : s.e = 0 ∧ s.l = [] := by
  by_cases h0 : s.e = 0
  · by_cases hl : s.l = []
    · exact ⟨h0, hl⟩
    · rw [endE, if_neg (by simp [h0]), if_neg hl] at h
      exact absurd h (by decide)
  · rw [endE, if_pos h0] at h
    exact absurd h h0
end Go.Proofs.YtpcdbpijgmninaaDoor

namespace Go.Proofs.YtpcdbpijgmninaaDoor
set_option maxRecDepth 100000

def hexD : List UInt8 := [48, 49, 50, 51, 52, 53, 54, 55, 56, 57, 97, 98, 99, 100, 101, 102]
def hexC (d : Nat) : UInt8 := hexD.getD d 0
/-- A digit's number; 16: none. -/
def digN (c : UInt8) : Nat := hexD.findIdx (· == c)
theorem digN_le (c : UInt8) : digN c ≤ 16 := List.findIdx_le_length
theorem digN_hexC (d : Nat) (h : d < 16) : digN (hexC d) = d := by
  have : ∀ d : Fin 16, digN (hexC d.val) = d.val := by decide
  exact this ⟨d, h⟩
theorem hexC_digN (c : UInt8) (h : digN c < 16) : hexC (digN c) = c := by
  have h1 := List.findIdx_getElem (w := (show hexD.findIdx (· == c) < hexD.length from h))
  have h2 : hexD[hexD.findIdx (· == c)]'(show hexD.findIdx (· == c) < hexD.length from h) = c := by simpa using h1
  rw [hexC, digN, List.getD, List.getElem?_eq_getElem (show hexD.findIdx (· == c) < hexD.length from h), h2]
  rfl

/-- The last k digits of a number. -/
def hexTo (n : Nat) : Nat → List UInt8
  | 0 => []
  | k + 1 => hexC (n / 16 ^ k % 16) :: hexTo n k
theorem hexTo_length (n k : Nat) : (hexTo n k).length = k := by
  induction k with
  | zero => rfl
  | succ k ih => rw [hexTo, List.length_cons, ih]
def hexL (n : Nat) : List UInt8 := hexTo n 16
theorem hexL_length (n : Nat) : (hexL n).length = 16 := hexTo_length n 16

/-- The number that digits are. -/
def ofHex (l : List UInt8) : Nat := l.foldl (fun n c => n * 16 + digN c) 0
theorem ofHex_snoc (l : List UInt8) (c : UInt8) : ofHex (l ++ [c]) = ofHex l * 16 + digN c := by simp [ofHex]
theorem ofHex_take (l : List UInt8) (k : Nat) (c : UInt8) (h : l[k]? = some c) : ofHex (l.take (k + 1)) = ofHex (l.take k) * 16 + digN c := by
  rw [take_at h, ofHex_snoc]
def allHex (l : List UInt8) : Bool := l.all fun c => decide (digN c < 16)
theorem allHex_take (l : List UInt8) (k : Nat) (c : UInt8) (h : l[k]? = some c) : allHex (l.take (k + 1)) = (allHex (l.take k) && decide (digN c < 16)) := by
  rw [take_at h]
  simp [allHex]
theorem allHex_not (l : List UInt8) (k : Nat) (c : UInt8) (h : l[k]? = some c) (hc : digN c = 16) : allHex l = false := by
  rw [allHex, List.all_eq_false]
  exact ⟨c, List.mem_of_getElem? h, by simp [hc]⟩
theorem ofHex_lt (l : List UInt8) (h : allHex l = true) : ofHex l < 16 ^ l.length := by
  have key : ∀ (l : List UInt8) (n : Nat), (∀ c ∈ l, digN c < 16) → l.foldl (fun n c => n * 16 + digN c) n < (n + 1) * 16 ^ l.length := by
    intro l
    induction l with
    | nil => intro n _; simp
    | cons c l ih =>
      intro n hl
      have h1 := ih (n * 16 + digN c) fun d hd => hl d (by simp [hd])
      have h2 := hl c (by simp)
      simp only [List.foldl_cons, List.length_cons, Nat.pow_succ]
      have h3 : (n * 16 + digN c + 1) * 16 ^ l.length ≤ ((n + 1) * 16) * 16 ^ l.length := Nat.mul_le_mul_right _ (by omega)
      have h4 : ((n + 1) * 16) * 16 ^ l.length = (n + 1) * (16 ^ l.length * 16) := by rw [Nat.mul_assoc, Nat.mul_comm 16]
      omega
  have := key l 0 (by simpa [allHex] using h)
  simpa [ofHex] using this
/-- ReadHex's answers. -/
def rhB (l : List UInt8) : Bool := decide (l.length = 16) && allHex l
def rhA (l : List UInt8) : Nat := if rhB l = true then ofHex l else 0
theorem hexTo_all (n k : Nat) : allHex (hexTo n k) = true := by
  induction k with
  | zero => rfl
  | succ k ih =>
    rw [hexTo]
    have h : digN (hexC (n / 16 ^ k % 16)) < 16 := by rw [digN_hexC _ (Nat.mod_lt _ (by decide))]; exact Nat.mod_lt _ (by decide)
    simp only [allHex, List.all_cons, decide_eq_true h, Bool.true_and] at ih ⊢
    exact ih
theorem foldHex_hexTo (n k a : Nat) : (hexTo n k).foldl (fun n c => n * 16 + digN c) a = a * 16 ^ k + n % 16 ^ k := by
  induction k generalizing a with
  | zero => simp [hexTo, Nat.mod_one]
  | succ k ih =>
    rw [hexTo, List.foldl_cons, ih, digN_hexC _ (Nat.mod_lt _ (by decide)), Nat.pow_succ, Nat.mod_mul]
    have e1 : (a * 16 + n / 16 ^ k % 16) * 16 ^ k = a * (16 ^ k * 16) + 16 ^ k * (n / 16 ^ k % 16) := by rw [Nat.add_mul, Nat.mul_assoc, Nat.mul_comm 16, Nat.mul_comm (n / 16 ^ k % 16)]
    rw [e1]
    omega
theorem read_hex (n : Nat) (h : n < 18446744073709551616) : rhB (hexL n) = true ∧ rhA (hexL n) = n := by
  have hb : rhB (hexL n) = true := by rw [rhB, hexL_length, hexL, hexTo_all]; rfl
  refine ⟨hb, ?_⟩
  rw [rhA, if_pos hb, ofHex, hexL, foldHex_hexTo, Nat.zero_mul, Nat.zero_add]
  exact Nat.mod_eq_of_lt h

/-- Bytes' digits. -/
def pairC (c : UInt8) : List UInt8 := [hexC (c.toNat / 16), hexC (c.toNat % 16)]
def pairsC (b : List UInt8) : List UInt8 := b.flatMap pairC
theorem pairsC_length (b : List UInt8) : (pairsC b).length = 2 * b.length := by
  induction b with
  | nil => rfl
  | cons c b ih =>
    have e : pairsC (c :: b) = pairC c ++ pairsC b := rfl
    rw [e, List.length_append, ih, List.length_cons]
    simp [pairC]
    omega
theorem pairsC_snoc (b : List UInt8) (c : UInt8) : pairsC (b ++ [c]) = pairsC b ++ pairC c := by simp [pairsC]
def bytesL (b : List UInt8) : List UInt8 := if b = [] then [45] else pairsC b
/-- The bytes that digits are. -/
def unpair : List UInt8 → Option (List UInt8)
  | [] => some []
  | [_] => none
  | a :: b :: l => if digN a = 16 ∨ digN b = 16 then none else (unpair l).map fun t => UInt8.ofNat (16 * digN a + digN b) :: t
theorem unpair_pairs (b : List UInt8) : unpair (pairsC b) = some b := by
  induction b with
  | nil => rfl
  | cons c b ih =>
    have e : pairsC (c :: b) = hexC (c.toNat / 16) :: hexC (c.toNat % 16) :: pairsC b := rfl
    have hc := c.toNat_lt
    rw [e, unpair, digN_hexC _ (by omega), digN_hexC _ (by omega), if_neg (by omega), ih]
    simp only [Option.map_some]
    congr 2
    rw [show 16 * (c.toNat / 16) + c.toNat % 16 = c.toNat by omega]
    simp
theorem unpair_snoc (p out : List UInt8) (a b : UInt8) (h : unpair p = some out) : unpair (p ++ [a, b]) = if digN a = 16 ∨ digN b = 16 then none else some (out ++ [UInt8.ofNat (16 * digN a + digN b)]) := by
  induction p using unpair.induct generalizing out with
  | case1 =>
    injection h with h
    subst h
    rw [List.nil_append, unpair]
    split
    · rfl
    · rfl
  | case2 x => simp [unpair] at h
  | case3 x y l hxy => simp [unpair, hxy] at h
  | case4 x y l hxy ih =>
    rw [unpair, if_neg hxy] at h
    cases hl : unpair l with
    | none => rw [hl] at h; simp at h
    | some t =>
      rw [hl] at h
      simp only [Option.map_some] at h
      injection h with h
      subst h
      have e : x :: y :: l ++ [a, b] = x :: y :: (l ++ [a, b]) := rfl
      rw [e, unpair, if_neg hxy, ih t hl]
      split
      · rfl
      · rfl
theorem unpair_none (p q out : List UInt8) (a b : UInt8) (h : unpair p = some out) (hab : digN a = 16 ∨ digN b = 16) : unpair (p ++ a :: b :: q) = none := by
  induction p using unpair.induct generalizing out with
  | case1 => rw [List.nil_append, unpair, if_pos hab]
  | case2 x => simp [unpair] at h
  | case3 x y l hxy => simp [unpair, hxy] at h
  | case4 x y l hxy ih =>
    rw [unpair, if_neg hxy] at h
    cases hl : unpair l with
    | none => rw [hl] at h; simp at h
    | some t =>
      have e : x :: y :: l ++ a :: b :: q = x :: y :: (l ++ a :: b :: q) := rfl
      rw [e, unpair, if_neg hxy, ih t hl]
      rfl
/-- ReadBytes' answer, if it is one. -/
def rbO (l : List UInt8) : Option (List UInt8) := if l = [45] then some [] else if l.length = 0 ∨ l.length % 2 = 1 ∨ 8192 < l.length then none else unpair l
def rbB (l : List UInt8) : Bool := (rbO l).isSome
def rbA (l : List UInt8) : List UInt8 := (rbO l).getD []
theorem read_bytes (b : List UInt8) (h : b.length ≤ 4096) : rbO (bytesL b) = some b := by
  rw [bytesL]
  by_cases hb : b = []
  · rw [if_pos hb, hb]
    rfl
  · have hl := pairsC_length b
    have h0 : 0 < b.length := List.length_pos_iff.2 hb
    rw [if_neg hb, rbO, if_neg (fun e => by rw [e] at hl; simp at hl; omega), if_neg (by omega), unpair_pairs]

/-- A number's digits, by ten. -/
def decL (n : Nat) : List UInt8 := if n < 10 then [hexC n] else decL (n / 10) ++ [hexC (n % 10)]
termination_by n
decreasing_by omega
theorem decL_lt (n : Nat) (h : n < 10) : decL n = [hexC n] := by rw [decL, if_pos h]
theorem decL_ge (n : Nat) (h : ¬ n < 10) : decL n = decL (n / 10) ++ [hexC (n % 10)] := by rw [decL, if_neg h]
/-- Number's answer. -/
def numL (i : Int) : List UInt8 := if i < 0 then 45 :: decL i.natAbs else decL i.toNat
theorem decL_length (n k : Nat) (h : n < 10 ^ k) (hk : 0 < k) : (decL n).length ≤ k := by
  induction k generalizing n with
  | zero => omega
  | succ k ih =>
    by_cases h1 : n < 10
    · rw [decL_lt n h1]
      simp
    · rw [decL_ge n h1, List.length_append, List.length_singleton]
      have : 0 < k := by
        rcases Nat.eq_zero_or_pos k with rfl | h
        · omega
        · exact h
      have h2 : n / 10 < 10 ^ k := by rw [Nat.pow_succ] at h; omega
      have := ih (n / 10) h2 this
      omega
/-- Is it one of them? -/
def inB (l : List UInt8) (c : UInt8) : Bool := l.contains c
theorem inB_true (l : List UInt8) (c : UInt8) (h : c ∈ l) : inB l c = true := List.contains_iff_mem.2 h
theorem inB_mem (l : List UInt8) (c : UInt8) (h : inB l c = true) : c ∈ l := List.contains_iff_mem.1 h

/-- Small letters; and digits, and the hyphen. -/
def lowL : List UInt8 := [97, 98, 99, 100, 101, 102, 103, 104, 105, 106, 107, 108, 109, 110, 111, 112, 113, 114, 115, 116, 117, 118, 119, 120, 121, 122]
def nameC : List UInt8 := [97, 98, 99, 100, 101, 102, 103, 104, 105, 106, 107, 108, 109, 110, 111, 112, 113, 114, 115, 116, 117, 118, 119, 120, 121, 122, 48, 49, 50, 51, 52, 53, 54, 55, 56, 57, 45]
/-- Name's answer. -/
def nameB (l : List UInt8) : Bool := decide (1 ≤ l.length) && decide (l.length ≤ 16) && l.head?.any (inB lowL) && l.all (inB nameC)
/-- Key's answer. -/
def keyC (c : UInt8) : Bool := decide (32 < c.toNat) && decide (c.toNat < 127)
def keyB (l : List UInt8) : Bool := decide (1 ≤ l.length) && decide (l.length ≤ 24) && l.all keyC

theorem all_take {α : Type} (p : α → Bool) (l : List α) (k : Nat) (c : α) (h : l[k]? = some c) : (l.take (k + 1)).all p = ((l.take k).all p && p c) := by
  rw [take_at h]
  simp
theorem all_not {α : Type} (p : α → Bool) (l : List α) (k : Nat) (c : α) (h : l[k]? = some c) (hc : p c = false) : l.all p = false := by
  rw [List.all_eq_false]
  exact ⟨c, List.mem_of_getElem? h, by simp [hc]⟩
end Go.Proofs.YtpcdbpijgmninaaDoor

namespace Go.Proofs.YtpcdbpijgmninaaDoor
set_option maxRecDepth 100000
open Go.RowKit

theorem str_cons (c : UInt8) (l : List UInt8) : (⟨#[c]⟩ : ByteArray) ++ ⟨l.toArray⟩ = ⟨(c :: l).toArray⟩ := by
  apply ByteArray.ext
  simp
theorem str_snoc (l : List UInt8) (c : UInt8) : (⟨l.toArray⟩ : ByteArray) ++ ⟨#[c]⟩ = ⟨(l ++ [c]).toArray⟩ := by
  apply ByteArray.ext
  simp
theorem str_plus (a b : List UInt8) : (⟨a.toArray⟩ : ByteArray) ++ ⟨b.toArray⟩ = ⟨(a ++ b).toArray⟩ := by
  apply ByteArray.ext
  simp

theorem str_at (l : List UInt8) (k : Nat) (c : UInt8) (hc : l[k]? = some c) (h : k < (⟨l.toArray⟩ : ByteArray).size) : (⟨l.toArray⟩ : ByteArray)[k]'h = c := by
  obtain ⟨h1, rfl⟩ := List.getElem?_eq_some_iff.1 hc
  rfl
end Go.Proofs.YtpcdbpijgmninaaDoor
