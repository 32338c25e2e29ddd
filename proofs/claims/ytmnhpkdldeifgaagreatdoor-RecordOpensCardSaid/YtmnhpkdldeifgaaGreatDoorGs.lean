/- What the texts of layer 7's statements lean on of package poly, as one thing to prove: each call's answer. And the document's, for keys of any length. Plain mathematics of package box: padded texts, small numbers' bytes, what is tagged, what is sealed. What the document's Nonce, padded, length and tag of layer 8 answer. What the document's tag of layer 8 answers. What the document's Seal of layer 8 answers. -/
import Derived.Test.YtmnhpkdldeifgaaGreatDoorGr
import Derived.Test.YtmnhpkdldeifgaaGreatDoorGn
import Derived.Test.YtmnhpkdldeifgaaGreatDoorGe
namespace Go.Proofs.YtmnhpkdldeifgaaGreatDoor
set_option maxRecDepth 100000
open Go.RowKit

/-- Bytes in a row that was not there before. -/
def Fresh (w : World) (B : Nat) (v : Value) (l : List UInt8) : Prop :=
  ∃ g off cap t cs, v = .slice (some ⟨g, off, none⟩) l.length cap ∧ l.length ≤ cap ∧ B ≤ g ∧ Whole w g t cs ∧ ∀ j c, l[j]? = some c → cs[off + j]? = some (.int .u8 (c.toNat : Int))
theorem Fresh.bytes {w : World} {B : Nat} {v : Value} {l : List UInt8} (h : Fresh w B v l) : BytesAt w v l := by
  obtain ⟨g, off, cap, t, cs, rfl, hc, -, hw, hcell⟩ := h
  refine ⟨_, cap, rfl, hc, fun _ => ⟨_, rfl, fun j c hj => ?_⟩⟩
  have ha : (⟨g, off, none⟩ : Addr).add j = ⟨g, off + j, none⟩ := by unfold Addr.add; split <;> simp_all
  rw [ha, hw.at_]
  exact hcell j c hj
theorem Fresh.of_own {w : World} {B : Nat} {v : Value} {l : List UInt8} (h : w.ownsRow B 5 1 v l.length (bv l)) (hl : 0 < l.length) : Fresh w B v l := by
  have hx := h
  rcases h.2 with ⟨-, h0⟩ | ⟨g, cap, cur, rfl, hB, hg, hc, _, _, _⟩
  · omega
  · refine ⟨g, 0, cap, _, cur, rfl, hc, hB, hg, fun j c hj => ?_⟩
    have hjl : j < l.length := (List.getElem?_eq_some_iff.1 hj).1
    have q := hx.cellAt j (by omega)
    rw [Whole.at_ (show Whole w g _ cur from hg) j] at q
    rw [Nat.zero_add, q]
    simp [bv, hj]

def tagA (n0 : Nat) (key msg : List UInt8) : List UInt8 := if n0 = 32 then tagL key msg else []
def tagE (n0 : Nat) : Int := if n0 = 32 then 0 else 2

structure PolyIs : Prop where
  clamp : ∀ (A : Option Addr) (n cap : Nat) (l : List UInt8) (w : World) (_ : n ≤ 1000000) (_ : BytesAt w (.slice A n cap) l),
    Calls Tryz.prog 54 #[.slice A n cap] w fun e w' => ∃ v', e = .returned v' ∧ BytesAt w' v' (clampL l) ∧ Below w.heap.size w w'
  tagBad : ∀ (A0 A1 : Option Addr) (n0 n1 cap0 cap1 : Nat) (w : World) (_ : n0 ≠ 32) (_ : n1 ≤ 1000000),
    Calls Tryz.prog 32 #[.slice A0 n0 cap0, .slice A1 n1 cap1] w fun e w' => ∃ v', e = .returned (.tuple #[v', .int .i64 2]) ∧ BytesAt w' v' [] ∧ Below w.heap.size w w'
  tag : ∀ (A0 A1 : Option Addr) (n cap0 cap1 : Nat) (key msg : List UInt8) (w : World) (_ : n ≤ 1000000) (_ : BytesAt w (.slice A0 32 cap0) key) (_ : BytesAt w (.slice A1 n cap1) msg),
    Calls Tryz.prog 32 #[.slice A0 32 cap0, .slice A1 n cap1] w fun e w' => ∃ v', e = .returned (.tuple #[v', .int .i64 0]) ∧ Fresh w' w.heap.size v' (tagL key msg) ∧ Below w.heap.size w w'
  check : ∀ (A0 A1 A2 : Option Addr) (n0 n1 n2 cap0 cap1 cap2 : Nat) (key msg tag : List UInt8) (w : World) (_ : n1 ≤ 1000000) (_ : n2 ≤ 1000000) (_ : BytesAt w (.slice A0 n0 cap0) key) (_ : BytesAt w (.slice A1 n1 cap1) msg) (_ : BytesAt w (.slice A2 n2 cap2) tag),
    Calls Tryz.prog 42 #[.slice A0 n0 cap0, .slice A1 n1 cap1, .slice A2 n2 cap2] w fun e w' => e = .returned (.bool (decide (n0 = 32 ∧ tagL key msg = tag))) ∧ Below w.heap.size w w'

theorem polyTag_all (H : PolyIs) (A0 A1 : Option Addr) (n0 n1 cap0 cap1 : Nat) (key msg : List UInt8) (w : World) (hn : n1 ≤ 1000000) (h0 : BytesAt w (.slice A0 n0 cap0) key) (h1 : BytesAt w (.slice A1 n1 cap1) msg) :
    Calls Tryz.prog 32 #[.slice A0 n0 cap0, .slice A1 n1 cap1] w fun e w' => ∃ v', e = .returned (.tuple #[v', .int .i64 (tagE n0)]) ∧ BytesAt w' v' (tagA n0 key msg) ∧ Below w.heap.size w w' := by
  by_cases h : n0 = 32
  · subst h
    have e : tagE 32 = 0 := rfl
    have e2 : tagA 32 key msg = tagL key msg := by rw [tagA, if_pos rfl]
    rw [e, e2]
    refine (H.tag A0 A1 n1 cap0 cap1 key msg w hn h0 h1).mono ?_
    rintro e w' ⟨v', rfl, y, b⟩
    exact ⟨v', rfl, y.bytes, b⟩
  · rw [tagE, tagA, if_neg h, if_neg h]
    exact H.tagBad A0 A1 n0 n1 cap0 cap1 w h hn
theorem refTag_all (A0 A1 : Option Addr) (n0 n1 cap0 cap1 : Nat) (key msg : List UInt8) (w : World) (hn : n1 ≤ 1000000) (h0 : BytesAt w (.slice A0 n0 cap0) key) (h1 : BytesAt w (.slice A1 n1 cap1) msg) :
    Calls Tryz.prog 66 #[.slice A0 n0 cap0, .slice A1 n1 cap1] w fun e w' => ∃ v', e = .returned (.tuple #[v', .int .i64 (tagE n0)]) ∧ BytesAt w' v' (tagA n0 key msg) ∧ Below w.heap.size w w' := by
  by_cases h : n0 = 32
  · subst h
    have e : tagE 32 = 0 := rfl
    have e2 : tagA 32 key msg = tagL key msg := by rw [tagA, if_pos rfl]
    rw [e, e2]
    exact refTag_any A0 A1 n1 cap0 cap1 key msg hn w h0 h1
  · rw [tagE, tagA, if_neg h, if_neg h]
    refine (refTag_bad A0 n0 cap0 _ h w).mono ?_
    rintro e w' ⟨rfl, b⟩
    exact ⟨_, rfl, BytesAt.nil w', b⟩

end Go.Proofs.YtmnhpkdldeifgaaGreatDoor

namespace Go.Proofs.YtmnhpkdldeifgaaGreatDoor
set_option maxRecDepth 100000
open Go.RowKit

def padN (n : Nat) : Nat := (16 - n % 16) % 16
/-- A text with bytes 0 behind. -/
def padB (b : List UInt8) : List UInt8 := b ++ List.replicate (padN b.length) 0
theorem padB_length (b : List UInt8) : (padB b).length = b.length + padN b.length := by simp [padB]
theorem padN_lt (n : Nat) : padN n ≤ 15 := by rw [padN]; omega
/-- A small number's bytes, so many of them. -/
def lenTo (n k : Nat) : List UInt8 := (List.range k).map fun i => UInt8.ofNat (n / 256 ^ i)
def lenB (n : Nat) : List UInt8 := lenTo n 8
theorem lenTo_length (n k : Nat) : (lenTo n k).length = k := by simp [lenTo]
theorem lenTo_succ (n k : Nat) : lenTo n (k + 1) = lenTo n k ++ [UInt8.ofNat (n / 256 ^ k)] := by simp [lenTo, List.range_succ]
theorem lenB_length (n : Nat) : (lenB n).length = 8 := lenTo_length n 8
/-- What is tagged. -/
def tagged (wth text : List UInt8) : List UInt8 := padB wth ++ padB text ++ lenB wth.length ++ lenB text.length
theorem tagged_length (wth text : List UInt8) : (tagged wth text).length ≤ wth.length + text.length + 46 := by
  have h1 := padN_lt wth.length
  have h2 := padN_lt text.length
  simp only [tagged, List.length_append, padB_length, lenB_length]
  omega
def boxTag (key nonce wth text : List UInt8) : List UInt8 := tagL ((blockC key nonce 0).take 32) (tagged wth text)
theorem boxTag_length (key nonce wth text : List UInt8) : (boxTag key nonce wth text).length = 16 := tagL_length _ _
/-- What a text is sealed to. -/
def sealC (key nonce wth msg : List UInt8) : List UInt8 := xorC key nonce 1 msg ++ boxTag key nonce wth (xorC key nonce 1 msg)
def nonceB (n : Nat) : List UInt8 := [0, 0, 0, 0] ++ be 8 n
theorem nonceB_length (n : Nat) : (nonceB n).length = 12 := by simp [nonceB, be_length]
theorem sealC_length (key nonce wth msg : List UInt8) : (sealC key nonce wth msg).length = msg.length + 16 := by
  rw [sealC, List.length_append, xorC_length, boxTag_length]

/-- Seal's answers and Open's, for keys and nonces of any length. -/
def seA (n0 n1 : Nat) (key nonce wth msg : List UInt8) : List UInt8 := if n0 ≠ 32 ∨ n1 ≠ 12 then [] else sealC key nonce wth msg
def seC (n0 n1 : Nat) : Int := if n0 ≠ 32 ∨ n1 ≠ 12 then 2 else 0
def goodTag (key nonce wth sealed : List UInt8) : Prop := boxTag key nonce wth (sealed.take (sealed.length - 16)) = sealed.drop (sealed.length - 16)
instance (key nonce wth sealed : List UInt8) : Decidable (goodTag key nonce wth sealed) := inferInstanceAs (Decidable (_ = _))
def opA (n0 n1 : Nat) (key nonce wth sealed : List UInt8) : List UInt8 :=
  if n0 ≠ 32 ∨ n1 ≠ 12 then [] else if sealed.length < 16 then [] else if goodTag key nonce wth sealed then xorC key nonce 1 (sealed.take (sealed.length - 16)) else []
def opC (n0 n1 : Nat) (key nonce wth sealed : List UInt8) : Int :=
  if n0 ≠ 32 ∨ n1 ≠ 12 then 2 else if sealed.length < 16 then 10 else if goodTag key nonce wth sealed then 0 else 21
end Go.Proofs.YtmnhpkdldeifgaaGreatDoor

namespace Go.Proofs.YtmnhpkdldeifgaaGreatDoor
set_option maxRecDepth 100000
open Go.RowKit

set_option maxHeartbeats 1000000 in
theorem refNonce_any (n : Nat) (hn : n < 18446744073709551616) (w : World) :
    Calls Tryz.prog 18 #[.int .u64 (n : Int)] w fun e w' => ∃ v', e = .returned v' ∧ BytesAt w' v' (nonceB n) ∧ Below w.heap.size w w' := by
  have z4 := BytesAt.lit w [0, 0, 0, 0] #[.int .u8 0, .int .u8 0, .int .u8 0, .int .u8 0] rfl
  have b4 : Below w.heap.size w (w.alloc (.cells #[.int .u8 0, .int .u8 0, .int .u8 0, .int .u8 0] 5)) := (Below.refl _ _).alloc (Nat.le_refl _) _
  have C := Lib.hid (ref_num_put _ [0, 0, 0, 0] 4 n 8 _ z4 (by decide) (by decide) (by decide) hn)
  have B4 := Lib.hid b4
  clear z4 b4
  go_enter Tryz.func18, Tryz.ntmps18
  go_wp2_with fail
  refine C.out.mono ?_
  rintro e w1 ⟨v1, rfl, o1, b1⟩
  have Y1 := Lib.hid (BytesAt.of_own o1)
  have B1 := Lib.hid (B4.out.trans (b1.mono B4.out.size))
  clear o1 b1
  go_wp2
  go_ret
  exact ⟨_, rfl, Y1.out, B1.out⟩

set_option maxHeartbeats 1000000 in
theorem refPadded_own (v : Value) (b : List UInt8) (w : World) (h : BytesAt w v b) (hl : b.length ≤ 1000000) :
    Calls Tryz.prog 64 #[v] w fun e w' => ∃ v', e = .returned v' ∧ w'.ownsRow w.heap.size 5 1 v' (padB b).length (bv (padB b)) ∧ Below w.heap.size w w' := by
  have HB := Lib.hid h
  obtain ⟨A, cap, rfl, hcap, -⟩ := h
  obtain ⟨i0, hi0, hz0, hz1, hz2⟩ := info_parts byte_info
  obtain ⟨P, hP⟩ : ∃ P, P = padN b.length := ⟨_, rfl⟩
  have HP := Lib.hid (And.intro hP (by rw [hP, padN] : P = (16 - b.length % 16) % 16))
  clear hP
  go_enter Tryz.func64, Tryz.ntmps64
  go_wp2_with (at_builtin; refine wpList_append_bytes rfl _ _ rfl w.heap.size _ 0 [] rfl (own_empty w) _ b rfl ?c1 ?c2 ?c3 ?_)
  case c1 => exact HB.out.below ((Below.refl _ _).alloc (Nat.le_refl _) _)
  case c2 => omega
  case c3 => simp
  intro v1 w1 o1 g1
  have B1 := Lib.hid (((Below.refl w.heap.size w).alloc (Nat.le_refl _) (.cells #[] 5)).grown g1 (by simp) (fun k hk => by simp [Value.ownBlock] at hk; omega))
  have O1 : Hid (w1.ownsRow w.heap.size 5 1 v1 (b.length + 0) (bv (b ++ List.replicate 0 0))) := Lib.hid (by simpa using o1)
  clear o1 g1
  go_wp2_with fail
  go_loopw [3] (fun u wr => ∃ k : Nat, k ≤ P ∧ wr.ownsRow w.heap.size 5 1 u (b.length + k) (bv (b ++ List.replicate k 0)) ∧ Below w.heap.size w wr) (fun u _ => 1000100 - sliceLen u)
  case atStart => exact ⟨0, Nat.zero_le _, O1.out, B1.out⟩
  case round =>
    obtain ⟨k, hk, ho, hb⟩ := hrel
    obtain ⟨Au, cu, rfl⟩ := own_form ho
    have HO := Lib.hid ho
    have HBe := Lib.hid hb
    have zr := Lib.hid hb.size
    clear ho hb O1 B1
    obtain ⟨m, hm⟩ : ∃ m, m = b.length + k := ⟨_, rfl⟩
    rw [← hm] at HO ⊢
    obtain ⟨q, hq⟩ : ∃ q, q = m % 16 := ⟨_, rfl⟩
    have r1 : (m : Int) % 16 = (q : Int) := by omega
    have HM := Lib.hid (And.intro hm hq)
    by_cases hlt : k < P
    · have d1 : decide ((0 : Int) < (q : Int)) = true := by simp; have := HP.out.2; omega
      have d2 : decide (0 < q) = true := by simp; have := HP.out.2; omega
      clear hm hq
      go_wp2_with (at_builtin; refine wpList_append_own _ rfl (.tmp 11) (.tmp 12) 25 rfl w.heap.size 5 i0 (.int .u8 0) 1 1 Tryz.underlying25 hi0 hz0 hz1 hz2 rfl (by decide) _ m _ rfl (HO.out.alloc _) ⟨wr.heap.size, 0, none⟩ 1 1 [.int .u8 0] rfl rfl ?c1 ?c2 ?c3 ?c4 ?c5 ?_)
      case c1 => exact cell_one_new _ _ _
      case c2 => intro u hu; simp at hu; subst hu; rfl
      case c3 => have h1 := HM.out; have h2 := HP.out.2; simp only [maxLen]; omega
      case c4 => have h1 := HM.out; have h2 := HP.out.2; omega
      case c5 => have := zr.out; simp; omega
      intro v' w2 o2 g2 _
      have hr := (HO.out.alloc (.cells #[.int .u8 0] 5)).lt
      have B2 := Lib.hid ((HBe.out.alloc zr.out (.cells #[.int .u8 0] 5)).grown g2 (by have := zr.out; simp; omega) (fun g hg => (hr g hg).1))
      obtain ⟨Av, cv, rfl⟩ := own_form o2
      have O2 : Hid (w2.ownsRow w.heap.size 5 1 (.slice Av (m + 1) cv) (b.length + (k + 1)) (bv (b ++ List.replicate (k + 1) 0))) := Lib.hid (by
        rw [List.replicate_succ', ← List.append_assoc, bv_append, ← Nat.add_assoc, ← HM.out.1]
        exact o2)
      clear o2 g2 hr r1
      go_wp2_with fail
      exact ⟨⟨k + 1, by omega, O2.out, B2.out⟩, by have h1 := HM.out; have h2 := HP.out.2; simp [sliceLen]; omega⟩
    · have d1 : decide ((0 : Int) < (q : Int)) = false := by simp; have := HP.out.2; omega
      have d2 : decide (0 < q) = false := by simp; have := HP.out.2; omega
      obtain rfl : k = P := by omega
      have O2 : Hid (wr.ownsRow w.heap.size 5 1 (.slice Au m cu) (padB b).length (bv (padB b))) := Lib.hid (by
        have q2 := HO.out
        rw [HP.out.1, show (b ++ List.replicate (padN b.length) 0) = padB b from rfl] at q2
        rw [padB_length, ← HP.out.1, ← hm]
        exact q2)
      clear HO
      have q0 : q = 0 := by have := HP.out.2; omega
      subst q0
      go_wp2
      go_ret
      exact ⟨_, rfl, O2.out, HBe.out⟩

set_option maxHeartbeats 1000000 in
theorem refLength_any (n : Nat) (hn : n ≤ 1000000) (w : World) :
    Calls Tryz.prog 65 #[.int .i64 (n : Int)] w fun e w' => ∃ v', e = .returned v' ∧ BytesAt w' v' (lenB n) ∧ Below w.heap.size w w' := by
  obtain ⟨i0, hi0, hz0, hz1, hz2⟩ := info_parts byte_info
  go_enter Tryz.func65, Tryz.ntmps65
  go_wp2_with fail
  go_loopw [0, 3, 4] (fun y u i wr => ∃ k : Nat, k ≤ 8 ∧ i = .int .i64 (k : Int) ∧ y = .int .i64 ((n / 256 ^ k : Nat) : Int) ∧ wr.ownsRow w.heap.size 5 1 u k (bv (lenTo n k)) ∧ Below w.heap.size w wr) (fun _ _ i _ => 8 - (intOf i).toNat)
  case atStart => exact ⟨0, by decide, rfl, by simp, World.ownsRow_nil _ _ _ _, Below.refl _ _⟩
  case round =>
    obtain ⟨k, hk, rfl, rfl, ho, hb⟩ := hrel
    obtain ⟨Au, cu, rfl⟩ := own_form ho
    have HO := Lib.hid ho
    have HBe := Lib.hid hb
    have zr := Lib.hid hb.size
    clear ho hb
    obtain ⟨y, hy⟩ : ∃ y, y = n / 256 ^ k := ⟨_, rfl⟩
    have hy1 : n / 256 ^ (k + 1) = y / 256 := by rw [hy, Nat.div_div_eq_div_mul, Nat.pow_succ]
    have yl : y ≤ 1000000 := by rw [hy]; exact Nat.le_trans (Nat.div_le_self _ _) hn
    rw [← hy]
    by_cases hlt : k < 8
    · have dk : decide ((k : Int) < 8) = true := by simp; omega
      have HS : Hid (lenTo n (k + 1) = lenTo n k ++ [UInt8.ofNat y]) := Lib.hid (by rw [lenTo_succ, hy])
      have HY1 := Lib.hid hy1
      obtain ⟨c, hc⟩ : ∃ c, c = UInt8.ofNat y := ⟨_, rfl⟩
      have r1 : IntKind.u8.wrap ((y : Int) % 256) = (c.toNat : Int) := by rw [hc, IntKind.wrap_u8]; simp
      rw [← hc] at HS
      clear hy hy1 hc
      go_wp2_with (at_builtin; refine wpList_append_own _ rfl (.tmp 9) (.tmp 13) 25 rfl w.heap.size 5 i0 (.int .u8 0) 1 1 Tryz.underlying25 hi0 hz0 hz1 hz2 rfl (by decide) _ k _ rfl (HO.out.alloc _) ⟨wr.heap.size, 0, none⟩ 1 1 [.int .u8 (c.toNat : Int)] rfl rfl ?c1 ?c2 ?c3 ?c4 ?c5 ?_)
      case c1 => exact cell_one_new _ _ _
      case c2 => intro u hu; simp at hu; subst hu; rfl
      case c3 => simp only [maxLen]; omega
      case c4 => omega
      case c5 => have := zr.out; simp; omega
      intro v' w2 o2 g2 _
      have hr := (HO.out.alloc (.cells #[.int .u8 (c.toNat : Int)] 5)).lt
      have B2 := Lib.hid ((HBe.out.alloc zr.out (.cells #[.int .u8 (c.toNat : Int)] 5)).grown g2 (by have := zr.out; simp; omega) (fun g hg => (hr g hg).1))
      obtain ⟨Av, cv, rfl⟩ := own_form o2
      have O2 : Hid (w2.ownsRow w.heap.size 5 1 (.slice Av (k + 1) cv) (k + 1) (bv (lenTo n (k + 1)))) := Lib.hid (by
        rw [HS.out, bv_append]
        exact o2)
      clear o2 g2 hr r1
      go_wp2_with fail
      exact ⟨⟨k + 1, by omega, by go_num, by rw [HY1.out]; go_num, O2.out, B2.out⟩, by simp [intOf]; omega⟩
    · have dk : decide ((k : Int) < 8) = false := by simp; omega
      obtain rfl : k = 8 := by omega
      have Y : Hid (BytesAt wr (.slice Au 8 cu) (lenB n)) := Lib.hid (BytesAt.of_own (base := w.heap.size) (by rw [lenB_length]; exact HO.out))
      clear HO
      go_wp2
      go_ret
      exact ⟨_, rfl, Y.out, HBe.out⟩
end Go.Proofs.YtmnhpkdldeifgaaGreatDoor

namespace Go.Proofs.YtmnhpkdldeifgaaGreatDoor
set_option maxRecDepth 100000
open Go.RowKit

set_option maxRecDepth 100000 in
set_option maxHeartbeats 2000000 in
theorem refBoxTag_any (A0 A1 A2 A3 : Option Addr) (n2 n3 cap0 cap1 cap2 cap3 : Nat) (key nonce wth text : List UInt8) (w : World) (hn2 : n2 ≤ 100000) (hn3 : n3 ≤ 100000)
    (h0 : BytesAt w (.slice A0 32 cap0) key) (h1 : BytesAt w (.slice A1 12 cap1) nonce) (h2 : BytesAt w (.slice A2 n2 cap2) wth) (h3 : BytesAt w (.slice A3 n3 cap3) text) :
    Calls Tryz.prog 38 #[.slice A0 32 cap0, .slice A1 12 cap1, .slice A2 n2 cap2, .slice A3 n3 cap3] w fun e w' => ∃ v', e = .returned v' ∧ BytesAt w' v' (boxTag key nonce wth text) ∧ Below w.heap.size w w' := by
  obtain ⟨rfl, k2⟩ := h2.size
  obtain ⟨rfl, k3⟩ := h3.size
  have C : Hid (Calls Tryz.prog 63 #[.slice A0 32 cap0, .slice A1 12 cap1, .int .u32 0] w _) := Lib.hid (refCiBlock_any A0 A1 cap0 cap1 key nonce 0 w h0 h1)
  have H2 := Lib.hid h2
  have H3 := Lib.hid h3
  have LK := Lib.hid (blockC_length key nonce 0)
  have E : Hid (tagL ((blockC key nonce 0).take 32) (padB wth ++ padB text ++ lenB wth.length ++ lenB text.length) = boxTag key nonce wth text) := Lib.hid rfl
  obtain ⟨B, hB⟩ : ∃ B, B = blockC key nonce 0 := ⟨_, rfl⟩
  rw [← hB] at C LK E
  have p2 := padB_length wth
  have p3 := padB_length text
  have q2 := padN_lt wth.length
  have q3 := padN_lt text.length
  have PL := Lib.hid (show (padB wth).length ≤ 100015 ∧ (padB text).length ≤ 100015 from ⟨by omega, by omega⟩)
  clear hB h0 h1 h2 h3 p2 p3 q2 q3
  go_enter Tryz.func38, Tryz.ntmps38
  go_wp2_with fail
  refine C.out.mono ?_
  rintro e w1 ⟨v1, rfl, y1, b1⟩
  have Y1 := Lib.hid (BytesAt.of_own (base := w.heap.size) (by rw [LK.out]; exact y1))
  obtain ⟨Ab, capb, rfl⟩ := own_form y1
  have B1 := Lib.hid b1
  clear y1 b1 C
  have CP := Lib.hid (refPadded_own _ wth w1 (H2.out.below B1.out) (by omega))
  go_wp2_with fail
  refine CP.out.mono ?_
  rintro e w2 ⟨v2, rfl, o2, b2⟩
  have O2 := Lib.hid o2
  have D2 := Lib.hid b2
  clear o2 b2 CP
  have CP := Lib.hid (refPadded_own _ text w2 (H3.out.below (B1.out.trans (D2.out.mono B1.out.size))) (by omega))
  go_wp2_with fail
  refine CP.out.mono ?_
  rintro e w3 ⟨v3, rfl, o3, b3⟩
  have O3 := Lib.hid (kept_below O2.out b3 rfl)
  have Z3 := Lib.hid (BytesAt.of_own o3)
  have D3 := Lib.hid (D2.out.trans (b3.mono D2.out.size))
  clear o3 b3 CP D2 O2
  go_wp2_with (at_builtin; refine wpList_append_bytes rfl _ _ rfl w1.heap.size _ _ _ rfl O3.out _ (padB text) rfl Z3.out ?c2 ?c3 ?_)
  case c2 => have := PL.out; omega
  case c3 => exact D3.out.size
  intro v4 w4 o4 g4
  have O4 : Hid (w4.ownsRow w1.heap.size 5 1 v4 ((padB wth).length + (padB text).length) (bv (padB wth ++ padB text))) := Lib.hid (by rw [bv_append]; exact o4)
  have D4 := Lib.hid (D3.out.grown g4 D3.out.size (fun k hk => (O3.out.lt k hk).1))
  clear o4 g4 O3 Z3 D3
  have CL := Lib.hid (refLength_any wth.length (by omega) w4)
  go_wp2_with fail
  refine CL.out.mono ?_
  rintro e w5 ⟨v5, rfl, y5, b5⟩
  have O5 := Lib.hid (kept_below O4.out b5 rfl)
  have Z5 := Lib.hid y5
  have D5 := Lib.hid (D4.out.trans (b5.mono D4.out.size))
  clear y5 b5 CL O4 D4
  go_wp2_with (at_builtin; refine wpList_append_bytes rfl _ _ rfl w1.heap.size _ _ _ rfl O5.out _ (lenB wth.length) rfl Z5.out ?c2 ?c3 ?_)
  case c2 => have := PL.out; rw [lenB_length]; omega
  case c3 => exact D5.out.size
  intro v6 w6 o6 g6
  have O6 : Hid (w6.ownsRow w1.heap.size 5 1 v6 ((padB wth).length + (padB text).length + 8) (bv (padB wth ++ padB text ++ lenB wth.length))) := Lib.hid (by
    rw [lenB_length] at o6
    rw [bv_append (padB wth ++ padB text)]
    exact o6)
  have D6 := Lib.hid (D5.out.grown g6 D5.out.size (fun k hk => (O5.out.lt k hk).1))
  clear o6 g6 O5 Z5 D5
  have CL := Lib.hid (refLength_any text.length (by omega) w6)
  go_wp2_with fail
  refine CL.out.mono ?_
  rintro e w7 ⟨v7, rfl, y7, b7⟩
  have O7 := Lib.hid (kept_below O6.out b7 rfl)
  have Z7 := Lib.hid y7
  have D7 := Lib.hid (D6.out.trans (b7.mono D6.out.size))
  clear y7 b7 CL O6 D6
  go_wp2_with (at_builtin; refine wpList_append_bytes rfl _ _ rfl w1.heap.size _ _ _ rfl O7.out _ (lenB text.length) rfl Z7.out ?c2 ?c3 ?_)
  case c2 => have := PL.out; rw [lenB_length]; omega
  case c3 => exact D7.out.size
  intro v8 w8 o8 g8
  obtain ⟨M, hM⟩ : ∃ M, M = padB wth ++ padB text ++ lenB wth.length ++ lenB text.length := ⟨_, rfl⟩
  have ML : M.length = (padB wth).length + (padB text).length + 8 + 8 := by rw [hM]; simp only [List.length_append, lenB_length]
  rw [← hM] at E
  have O8 : w8.ownsRow w1.heap.size 5 1 v8 M.length (bv M) := by
    rw [lenB_length, ← List.append_assoc] at o8
    rw [ML, hM, bv_append (padB wth ++ padB text ++ lenB wth.length)]
    exact o8
  have D8 := Lib.hid (D7.out.grown g8 D7.out.size (fun k hk => (O7.out.lt k hk).1))
  obtain ⟨Am, capm, rfl⟩ := own_form O8
  have Y8 := Lib.hid ((Y1.out.below D8.out).first 32 (by decide))
  have kb : (32 : Int) ≤ (capb : Int) := by have := Y1.out.size.2; omega
  have M8 := Lib.hid (BytesAt.of_own O8)
  have CT := Lib.hid (refTag_any Ab Am M.length capb capm (B.take 32) M (by rw [ML]; have := PL.out; omega) w8 Y8.out M8.out)
  rw [E.out] at CT
  have B8 := Lib.hid (B1.out.trans (D8.out.mono B1.out.size))
  clear o8 g8 O7 Z7 D7 hM ML O8 Y8 M8 Y1 D8 B1 E
  go_wp2_with fail
  refine CT.out.mono ?_
  rintro e w9 ⟨v9, rfl, y9, b9⟩
  have Y9 := Lib.hid y9
  have B9 := Lib.hid (B8.out.trans (b9.mono B8.out.size))
  clear y9 b9 CT
  go_wp2
  go_ret
  exact ⟨_, rfl, Y9.out, B9.out⟩
end Go.Proofs.YtmnhpkdldeifgaaGreatDoor

namespace Go.Proofs.YtmnhpkdldeifgaaGreatDoor
set_option maxRecDepth 100000
open Go.RowKit

theorem refSeal_bad (A0 A1 : Option Addr) (n0 n1 cap0 cap1 : Nat) (v2 v3 : Value) (h : n0 ≠ 32 ∨ n1 ≠ 12) (w : World) :
    Calls Tryz.prog 17 #[.slice A0 n0 cap0, .slice A1 n1 cap1, v2, v3] w fun e w' => e = .returned (.tuple #[.slice none 0 0, .int .i64 2]) ∧ Below w.heap.size w w' := by
  by_cases h0 : n0 = 32
  · subst h0
    have d1 : ((n1 : Int) != 12) = true := by simp; omega
    have d2 : ¬ (n1 = 12) := by omega
    go_enter Tryz.func17, Tryz.ntmps17
    go_wp2
    go_ret2
    exact ⟨rfl, Below.refl _ _⟩
  · have d0 : ((n0 : Int) != 32) = true := by simp; omega
    go_enter Tryz.func17, Tryz.ntmps17
    go_wp2
    go_ret2
    exact ⟨rfl, Below.refl _ _⟩

set_option maxRecDepth 100000 in
set_option maxHeartbeats 2000000 in
theorem refSeal_any (A0 A1 A2 A3 : Option Addr) (n2 n3 cap0 cap1 cap2 cap3 : Nat) (key nonce wth msg : List UInt8) (w : World) (hn2 : n2 ≤ 100000) (hn3 : n3 ≤ 100000)
    (h0 : BytesAt w (.slice A0 32 cap0) key) (h1 : BytesAt w (.slice A1 12 cap1) nonce) (h2 : BytesAt w (.slice A2 n2 cap2) wth) (h3 : BytesAt w (.slice A3 n3 cap3) msg) :
    Calls Tryz.prog 17 #[.slice A0 32 cap0, .slice A1 12 cap1, .slice A2 n2 cap2, .slice A3 n3 cap3] w fun e w' => ∃ v', e = .returned (.tuple #[v', .int .i64 0]) ∧ BytesAt w' v' (sealC key nonce wth msg) ∧ Below w.heap.size w w' := by
  have C : Hid (Calls Tryz.prog 37 #[.slice A0 32 cap0, .slice A1 12 cap1, .int .u32 1, .slice A3 n3 cap3] w _) := Lib.hid (refXor_any A0 A1 A3 n3 cap0 cap1 cap3 key nonce msg 1 (by have : (1 : UInt32).toNat = 1 := rfl; omega) (by omega) w h0 h1 h3)
  have H0 := Lib.hid h0
  have H1 := Lib.hid h1
  have H2 := Lib.hid h2
  have XL : (xorC key nonce 1 msg).length = n3 := (xorC_length key nonce 1 msg).trans h3.size.1.symm
  have E : Hid (xorC key nonce 1 msg ++ boxTag key nonce wth (xorC key nonce 1 msg) = sealC key nonce wth msg) := Lib.hid rfl
  obtain ⟨X, hX⟩ : ∃ X, X = xorC key nonce 1 msg := ⟨_, rfl⟩
  rw [← hX] at C XL E
  have TL := Lib.hid (boxTag_length key nonce wth X)
  clear hX h0 h1 h2 h3
  go_enter Tryz.func17, Tryz.ntmps17
  go_wp2_with fail
  refine C.out.mono ?_
  rintro e w1 ⟨v1, rfl, y1, b1⟩
  obtain ⟨Ax, capx, rfl, hcx, -⟩ := id y1
  have Y1 := Lib.hid y1
  have B1 := Lib.hid b1
  clear y1 b1 C
  have HX := Lib.hid XL
  rw [XL]
  clear XL
  go_wp2_with (at_builtin; refine wpList_append_bytes rfl _ _ rfl w1.heap.size _ 0 [] rfl (own_empty w1) _ X rfl ?c1 ?c2 ?c3 ?_)
  case c1 => have q := Y1.out.below ((Below.refl _ _).alloc (Nat.le_refl _) (.cells #[] 5)); rw [HX.out] at q; exact q
  case c2 => have := HX.out; omega
  case c3 => simp
  intro v2 w2 o2 g2
  have O2 : Hid (w2.ownsRow w1.heap.size 5 1 v2 X.length (bv X)) := Lib.hid (by simpa using o2)
  have D2 := Lib.hid (((Below.refl w1.heap.size w1).alloc (Nat.le_refl _) (.cells #[] 5)).grown g2 (by simp) (fun k hk => by simp [Value.ownBlock] at hk; omega))
  have B2 := Lib.hid (B1.out.trans (D2.out.mono B1.out.size))
  have Y2 := Y1.out.below D2.out
  rw [HX.out] at Y2
  have CT := Lib.hid (refBoxTag_any A0 A1 A2 Ax n2 n3 cap0 cap1 cap2 capx key nonce wth X w2 hn2 hn3 (H0.out.below B2.out) (H1.out.below B2.out) (H2.out.below B2.out) Y2)
  clear o2 g2 Y2
  go_wp2_with fail
  refine CT.out.mono ?_
  rintro e w3 ⟨v3, rfl, y3, b3⟩
  have Y3 := Lib.hid y3
  have O3 := Lib.hid (kept_below O2.out b3 rfl)
  have D3 := Lib.hid (D2.out.trans (b3.mono D2.out.size))
  clear y3 b3 CT O2 D2 B2
  go_wp2_with (at_builtin; refine wpList_append_bytes rfl _ _ rfl w1.heap.size _ _ _ rfl O3.out _ (boxTag key nonce wth X) rfl Y3.out ?c1 ?c2 ?_)
  case c1 => rw [HX.out, TL.out]; omega
  case c2 => exact D3.out.size
  intro v4 w4 o4 g4
  have O4 : Hid (w4.ownsRow w1.heap.size 5 1 v4 (sealC key nonce wth msg).length (bv (sealC key nonce wth msg))) := Lib.hid (by
    rw [← E.out, List.length_append, bv_append]
    exact o4)
  have D4 := Lib.hid (D3.out.grown g4 D3.out.size (fun k hk => (O3.out.lt k hk).1))
  have B4 := Lib.hid (B1.out.trans (D4.out.mono B1.out.size))
  have Y4 := Lib.hid (BytesAt.of_own O4.out)
  clear o4 g4 O3 Y3 D3 D4 O4
  go_wp2
  go_ret2
  exact ⟨_, rfl, Y4.out, B4.out⟩

theorem refSeal_all (A0 A1 A2 A3 : Option Addr) (n0 n1 n2 n3 cap0 cap1 cap2 cap3 : Nat) (key nonce wth msg : List UInt8) (w : World) (hn2 : n2 ≤ 100000) (hn3 : n3 ≤ 100000)
    (h0 : BytesAt w (.slice A0 n0 cap0) key) (h1 : BytesAt w (.slice A1 n1 cap1) nonce) (h2 : BytesAt w (.slice A2 n2 cap2) wth) (h3 : BytesAt w (.slice A3 n3 cap3) msg) :
    Calls Tryz.prog 17 #[.slice A0 n0 cap0, .slice A1 n1 cap1, .slice A2 n2 cap2, .slice A3 n3 cap3] w fun e w' => ∃ v', e = .returned (.tuple #[v', .int .i64 (seC n0 n1)]) ∧ BytesAt w' v' (seA n0 n1 key nonce wth msg) ∧ Below w.heap.size w w' := by
  by_cases h : n0 ≠ 32 ∨ n1 ≠ 12
  · rw [seA, seC, if_pos h, if_pos h]
    exact (refSeal_bad A0 A1 n0 n1 cap0 cap1 _ _ h w).mono fun _ _ ⟨he, hb⟩ => ⟨_, he, BytesAt.nil _, hb⟩
  · rw [seA, seC, if_neg h, if_neg h]
    obtain rfl : n0 = 32 := by omega
    obtain rfl : n1 = 12 := by omega
    exact refSeal_any A0 A1 A2 A3 n2 n3 cap0 cap1 cap2 cap3 key nonce wth msg w hn2 hn3 h0 h1 h2 h3
end Go.Proofs.YtmnhpkdldeifgaaGreatDoor
