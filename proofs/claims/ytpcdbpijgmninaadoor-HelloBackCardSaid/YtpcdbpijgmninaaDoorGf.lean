/- Readers of bytes, the package's and the document's, as one: bytes that are left, the error that was met, and what each call tells and leaves. -/
import Derived.Test.YtpcdbpijgmninaaDoorGe
namespace Go.Proofs.YtpcdbpijgmninaaDoor
set_option maxRecDepth 100000
open Go.RowKit

structure RS where
  l : List UInt8
  e : Int
deriving DecidableEq
def RS.ok (s : RS) : Prop := s.e ≠ 0 → s.l = []
def rawO (s : RS) (n : Nat) : List UInt8 := if s.e = 0 ∧ n ≤ s.l.length then s.l.take n else []
def rawS (s : RS) (n : Nat) : RS := if s.e ≠ 0 then s else if n ≤ s.l.length then ⟨s.l.drop n, 0⟩ else ⟨[], 10⟩
def numO (s : RS) (n : Nat) : Nat := ofBe (rawO s n)
def textO (s : RS) (most : Nat) : List UInt8 := if (rawS s 2).e ≠ 0 then [] else if most < numO s 2 then [] else rawO (rawS s 2) (numO s 2)
def textS (s : RS) (most : Nat) : RS := if (rawS s 2).e ≠ 0 then rawS s 2 else if most < numO s 2 then ⟨[], 3⟩ else rawS (rawS s 2) (numO s 2)
def endE (s : RS) : Int := if s.e ≠ 0 then s.e else if s.l = [] then 0 else 12

theorem rawS_ok {s : RS} (h : s.ok) (n : Nat) : (rawS s n).ok := by
  rw [rawS]
  split
  · exact h
  · split
    · intro k; exact absurd rfl k
    · intro _; rfl
theorem textS_ok {s : RS} (h : s.ok) (n : Nat) : (textS s n).ok := by
  rw [textS]
  split
  · exact rawS_ok h 2
  · split
    · intro _; rfl
    · exact rawS_ok (rawS_ok h 2) _
theorem rawO_met {s : RS} (h : s.e ≠ 0) (n : Nat) : rawO s n = [] := by rw [rawO, if_neg (fun k => h k.1)]
theorem rawO_length (s : RS) (n : Nat) : (rawO s n).length ≤ n := by
  rw [rawO]
  split
  · rw [List.length_take]; omega
  · simp
theorem rawO_some {s : RS} (h : s.e = 0) {n : Nat} (hn : n ≤ s.l.length) : rawO s n = s.l.take n := by rw [rawO, if_pos ⟨h, hn⟩]
theorem rawO_short {s : RS} {n : Nat} (hn : s.l.length < n) : rawO s n = [] := by rw [rawO, if_neg (fun k => by omega)]
theorem rawS_met {s : RS} (h : s.e ≠ 0) (n : Nat) : rawS s n = s := by rw [rawS, if_pos h]
theorem rawS_some {s : RS} (h : s.e = 0) {n : Nat} (hn : n ≤ s.l.length) : rawS s n = ⟨s.l.drop n, 0⟩ := by rw [rawS, if_neg (by simp [h]), if_pos hn]
theorem rawS_short {s : RS} (h : s.e = 0) {n : Nat} (hn : s.l.length < n) : rawS s n = ⟨[], 10⟩ := by rw [rawS, if_neg (by simp [h]), if_neg (by omega)]
theorem rawS_less (s : RS) (n : Nat) : (rawS s n).l.length ≤ s.l.length := by
  rw [rawS]
  split
  · exact Nat.le_refl _
  · split
    · simp
    · simp
theorem numO_lt (s : RS) (n : Nat) : numO s n < 256 ^ n := Nat.lt_of_lt_of_le (ofBe_lt _) (Nat.pow_le_pow_right (by decide) (rawO_length s n))
theorem numO_u16 (s : RS) : numO s 2 ≤ 65535 := by have := numO_lt s 2; omega

theorem ext_take (l : List UInt8) (n : Nat) : (⟨l.toArray⟩ : ByteArray).extract 0 n = ⟨(l.take n).toArray⟩ := by
  apply ByteArray.ext; simp
theorem ext_drop (l : List UInt8) (n : Nat) : (⟨l.toArray⟩ : ByteArray).extract n (⟨l.toArray⟩ : ByteArray).size = ⟨(l.drop n).toArray⟩ := by
  have h : (⟨l.toArray⟩ : ByteArray).size = l.length := rfl
  rw [h]
  apply ByteArray.ext
  simp
  exact List.take_of_length_le (by simp)
theorem str_empty : (⟨([] : List UInt8).toArray⟩ : ByteArray) = ByteArray.empty := rfl

/-- The package's reader. -/
def RdS (w : World) (g : Nat) (s : RS) : Prop := Rd w g ⟨s.l.toArray⟩ s.e ∧ s.ok
theorem met_ne {e k : Int} (h : e ≠ 0) : met e k = e := by rw [met, if_neg h]

theorem pkRaw (g n : Nat) (s : RS) (w : World) (h : RdS w g s) :
    Calls Tryd.prog 54 #[.pointer (some ⟨g, 0, none⟩), .int .i64 (n : Int)] w fun e w' => e = .returned (.string ⟨(rawO s n).toArray⟩) ∧ RdS w' g (rawS s n) ∧ w.grownBy w' (some g) := by
  have hsz : (⟨s.l.toArray⟩ : ByteArray).size = s.l.length := rfl
  by_cases hn : n ≤ s.l.length
  · refine (raw_some g _ s.e n w h.1 (by rw [hsz]; exact hn)).mono ?_
    rintro e w' ⟨rfl, hr, hg⟩
    rw [ext_take, ext_drop] at *
    by_cases h0 : s.e = 0
    · rw [rawO_some h0 hn, rawS_some h0 hn]
      rw [h0] at hr
      exact ⟨rfl, ⟨hr, fun k => absurd rfl k⟩, hg⟩
    · have hl := h.2 h0
      rw [rawO_met h0, rawS_met h0]
      rw [hl] at hr ⊢
      simp only [List.take_nil, List.drop_nil] at hr ⊢
      exact ⟨trivial, ⟨by rw [hl]; exact hr, h.2⟩, hg⟩
  · have hs : s.e ≠ 0 → (⟨s.l.toArray⟩ : ByteArray) = ByteArray.empty := fun k => by rw [h.2 k]; rfl
    refine (raw_short g _ s.e n w h.1 hs (by rw [hsz]; omega)).mono ?_
    rintro e w' ⟨rfl, hr, hg⟩
    rw [rawO_short (by omega)]
    by_cases h0 : s.e = 0
    · rw [rawS_short h0 (by omega)]
      rw [h0, met, if_pos rfl] at hr
      exact ⟨rfl, ⟨hr, fun _ => rfl⟩, hg⟩
    · rw [rawS_met h0]
      rw [met_ne h0] at hr
      exact ⟨rfl, ⟨by rw [h.2 h0]; exact hr, h.2⟩, hg⟩

theorem pkNum (g n : Nat) (s : RS) (w : World) (h : RdS w g s) (h1 : 1 ≤ n) (h8 : n ≤ 8) :
    Calls Tryd.prog 52 #[.pointer (some ⟨g, 0, none⟩), .int .i64 (n : Int)] w fun e w' => e = .returned (.int .u64 (numO s n : Int)) ∧ RdS w' g (rawS s n) ∧ w.grownBy w' (some g) := by
  have C := (pkRaw g n s w h).mono (R' := fun e w' => e = .returned (.string ⟨(rawO s n).toArray⟩) ∧ RdTo w g ⟨(rawS s n).l.toArray⟩ (rawS s n).e w') fun e w' ⟨a, b, c⟩ => ⟨a, b.1, c⟩
  have hl := rawO_length s n
  refine (read_num_core g ⟨(rawO s n).toArray⟩ _ _ n w h1 h8 (Nat.le_trans hl h8) (Lib.hid C)).mono ?_
  rintro e w' ⟨rfl, hr, hg⟩
  exact ⟨rfl, ⟨hr, rawS_ok h.2 n⟩, hg⟩

theorem pkText (g most : Nat) (s : RS) (w : World) (h : RdS w g s) :
    Calls Tryd.prog 51 #[.pointer (some ⟨g, 0, none⟩), .int .i64 (most : Int)] w fun e w' => e = .returned (.string ⟨(textO s most).toArray⟩) ∧ RdS w' g (textS s most) ∧ w.grownBy w' (some g) := by
  have C := (pkNum g 2 s w h (by decide) (by decide)).mono (R' := fun e w' => e = .returned (.int .u64 (numO s 2 : Int)) ∧ RdTo w g ⟨(rawS s 2).l.toArray⟩ (rawS s 2).e w') fun e w' ⟨a, b, c⟩ => ⟨a, b.1, c⟩
  have ho := rawS_ok h.2 2
  have hs : (rawS s 2).e ≠ 0 → (⟨(rawS s 2).l.toArray⟩ : ByteArray) = ByteArray.empty := fun k => by rw [ho k]; rfl
  by_cases hm : most < numO s 2
  · have h0 : (rawS s 2).e = 0 := by
      by_cases k : (rawS s 2).e = 0
      · exact k
      · exfalso
        have e0 : rawO s 2 = [] := by
          rw [rawS] at k
          split at k
          · rename_i h0
            exact rawO_met h0 2
          · split at k
            · exact absurd rfl k
            · exact rawO_short (by omega)
        have : numO s 2 = 0 := by rw [numO, e0]; rfl
        omega
    refine (read_text_big g (rawS s 2).e w (numO s 2) most _ hs (numO_u16 s) (by omega) (Lib.hid C)).mono ?_
    rintro e w' ⟨rfl, hr, hg⟩
    have e1 : textO s most = [] := by rw [textO, if_neg (by simp [h0]), if_pos hm]
    have e2 : textS s most = ⟨[], 3⟩ := by rw [textS, if_neg (by simp [h0]), if_pos hm]
    rw [e1, e2]
    rw [h0, met, if_pos rfl] at hr
    exact ⟨rfl, ⟨hr, fun _ => rfl⟩, hg⟩
  · have e1 : textO s most = rawO (rawS s 2) (numO s 2) := by
      rw [textO]
      split
      · rename_i k
        rw [rawO_met k]
      · first | rfl | rw [if_neg hm]
    have e2 : textS s most = rawS (rawS s 2) (numO s 2) := by
      rw [textS]
      split
      · rename_i k
        rw [rawS_met k]
      · first | rfl | rw [if_neg hm]
    rw [e1, e2]
    refine (read_text_ok g (rawS s 2).e _ w (numO s 2) most _ _ _ (numO_u16 s) (by omega) (Lib.hid C) (Lib.hid fun w1 h1 => (pkRaw g (numO s 2) (rawS s 2) w1 ⟨h1, ho⟩).mono fun e w' ⟨a, b, c⟩ => ⟨a, b.1, c⟩)).mono ?_
    rintro e w' ⟨rfl, hr, hg⟩
    exact ⟨rfl, ⟨hr, rawS_ok ho _⟩, hg⟩

theorem pkEnd (g : Nat) (s : RS) (w : World) (h : RdS w g s) :
    Calls Tryd.prog 55 #[.pointer (some ⟨g, 0, none⟩)] w fun e w' => e = .returned (.int .i64 (endE s)) ∧ w = w' := by
  refine (end_any g _ s.e w h.1).mono ?_
  rintro e w' ⟨rfl, rfl⟩
  refine ⟨?_, rfl⟩
  have hsz : (⟨s.l.toArray⟩ : ByteArray).size = s.l.length := rfl
  have : ended ⟨s.l.toArray⟩ s.e = endE s := by
    rw [ended, endE, hsz]
    split
    · rfl
    · by_cases hl : s.l = []
      · rw [hl]; rfl
      · have : 0 < s.l.length := List.length_pos_iff.2 hl
        rw [if_pos this, if_neg hl]
  rw [this]

set_option maxHeartbeats 400000 in
theorem pkOpen (A : Option Addr) (n c : Nat) (b : List UInt8) (w : World) (h : BytesAt w (.slice A n c) b) :
    Calls Tryd.prog 76 #[.slice A n c] w fun e w' => e = .returned (.pointer (some ⟨w.heap.size, 0, none⟩)) ∧ RdS w' w.heap.size ⟨b, 0⟩ ∧ Below w.heap.size w w' := by
  have hc := fun w' (hb : Below w.heap.size w w') => conv_bytes (h.below hb)
  have hc0 := hc w (Below.refl _ _)
  have HN := Lib.hid (Whole.new w 103 #[.string ⟨b.toArray⟩, .int .i64 0])
  clear h hc
  go_enter Tryd.func76, Tryd.ntmps76
  go_wp2
  go_ret
  exact ⟨rfl, ⟨HN.out, fun k => absurd rfl k⟩, (Below.refl _ _).alloc (Nat.le_refl _) _⟩

/-- The document's reader of the bytes b. -/
def RfS (w : World) (g : Nat) (A : Option Addr) (cap : Nat) (b : List UInt8) (s : RS) : Prop :=
  ∃ p, Rf w g (.slice A b.length cap) p s.e ∧ p ≤ b.length ∧ (s.e = 0 → s.l = b.drop p) ∧ s.ok ∧ BytesAt w (.slice A b.length cap) b ∧ (b ≠ [] → ∀ ad, A = some ad → ad.block ≠ g)
theorem RfS.kept {w w' : World} {g : Nat} {A : Option Addr} {cap : Nat} {b : List UInt8} (h : BytesAt w (.slice A b.length cap) b) (hA : b ≠ [] → ∀ ad, A = some ad → ad.block ≠ g) (hg : w.grownBy w' (some g)) : BytesAt w' (.slice A b.length cap) b :=
  h.keep fun hb k hk ho => hg.block k hk (by
    cases A with
    | none => cases ho
    | some ad =>
      injection ho with ho
      subst ho
      intro e
      injection e with e
      exact hA hb ad rfl e)

theorem rfRaw (g n : Nat) (A : Option Addr) (cap : Nat) (b : List UInt8) (s : RS) (w : World) (h : RfS w g A cap b s) (hb : b.length ≤ 9000) :
    Calls Tryd.prog 59 #[.pointer (some ⟨g, 0, none⟩), .int .i64 (n : Int)] w fun e w' => e = .returned (.string ⟨(rawO s n).toArray⟩) ∧ RfS w' g A cap b (rawS s n) ∧ w.grownBy w' (some g) := by
  obtain ⟨p, hr, hp, hl, ho, hB, hA⟩ := h
  by_cases h0 : s.e = 0
  · rw [h0] at hr
    have hl := hl h0
    have hll : s.l.length = b.length - p := by rw [hl, List.length_drop]
    by_cases hn : n ≤ s.l.length
    · refine (ref_raw_some g A b cap p n w hr hB (by omega) hb).mono ?_
      rintro e w' ⟨rfl, hr', hg⟩
      rw [rawO_some h0 hn, rawS_some h0 hn, hl]
      refine ⟨rfl, ⟨p + n, hr', by omega, fun _ => ?_, fun k => absurd rfl k, RfS.kept hB hA hg, hA⟩, hg⟩
      show (b.drop p).drop n = b.drop (p + n)
      rw [List.drop_drop]
    · refine (ref_raw_short g A b.length cap p n w hr hp hb (by omega)).mono ?_
      rintro e w' ⟨rfl, hr', hg⟩
      rw [rawO_short (by omega), rawS_short h0 (by omega)]
      exact ⟨rfl, ⟨p, hr', hp, fun k => absurd k (by decide), fun _ => rfl, RfS.kept hB hA hg, hA⟩, hg⟩
  · refine (ref_raw_met g _ p s.e n w hr h0).mono ?_
    rintro e w' ⟨rfl, rfl⟩
    rw [rawO_met h0, rawS_met h0]
    exact ⟨rfl, ⟨p, hr, hp, hl, ho, hB, hA⟩, World.grownBy.refl w _⟩

theorem rfNum (g n : Nat) (A : Option Addr) (cap : Nat) (b : List UInt8) (s : RS) (w : World) (h : RfS w g A cap b s) (hb : b.length ≤ 9000) (h1 : 1 ≤ n) (h8 : n ≤ 8) :
    Calls Tryd.prog 58 #[.pointer (some ⟨g, 0, none⟩), .int .i64 (n : Int)] w fun e w' => e = .returned (.int .u64 (numO s n : Int)) ∧ RfS w' g A cap b (rawS s n) ∧ w.grownBy w' (some g) := by
  have C := rfRaw g n A cap b s w h hb
  obtain ⟨p, hr, hp, hl, ho, hB, hA⟩ := h
  by_cases h0 : s.e = 0
  · rw [h0] at hr
    have hl := hl h0
    have hll : s.l.length = b.length - p := by rw [hl, List.length_drop]
    have hlen := rawO_length s n
    by_cases hn : n ≤ s.l.length
    · have C2 := ref_raw_some g A b cap p n w hr hB (by omega) hb
      refine (ref_num_core g _ p (p + n) _ 0 n w hr h1 h8 (by show ((b.drop p).take n).length ≤ 8; rw [List.length_take]; omega) (Lib.hid C2)).mono ?_
      rintro e w' ⟨rfl, hr', hg⟩
      rw [numO, rawO_some h0 hn, rawS_some h0 hn, hl]
      refine ⟨rfl, ⟨p + n, hr', by omega, fun _ => ?_, fun k => absurd rfl k, RfS.kept hB hA hg, hA⟩, hg⟩
      show (b.drop p).drop n = b.drop (p + n)
      rw [List.drop_drop]
    · have C2 := ref_raw_short g A b.length cap p n w hr hp hb (by omega)
      refine (ref_num_core g _ p p _ 10 n w hr h1 h8 (by decide) (Lib.hid C2)).mono ?_
      rintro e w' ⟨rfl, hr', hg⟩
      rw [numO, rawO_short (by omega), rawS_short h0 (by omega)]
      exact ⟨rfl, ⟨p, hr', hp, fun k => absurd k (by decide), fun _ => rfl, RfS.kept hB hA hg, hA⟩, hg⟩
  · refine (ref_num_met g _ p s.e n w hr h0).mono ?_
    rintro e w' ⟨rfl, rfl⟩
    rw [numO, rawO_met h0, rawS_met h0]
    exact ⟨rfl, ⟨p, hr, hp, hl, ho, hB, hA⟩, World.grownBy.refl w _⟩

theorem rfText (g most : Nat) (A : Option Addr) (cap : Nat) (b : List UInt8) (s : RS) (w : World) (h : RfS w g A cap b s) (hb : b.length ≤ 9000) :
    Calls Tryd.prog 57 #[.pointer (some ⟨g, 0, none⟩), .int .i64 (most : Int)] w fun e w' => e = .returned (.string ⟨(textO s most).toArray⟩) ∧ RfS w' g A cap b (textS s most) ∧ w.grownBy w' (some g) := by
  obtain ⟨p, hr, hp, hl, ho, hB, hA⟩ := id h
  by_cases h0 : s.e = 0
  · rw [h0] at hr
    have hl := hl h0
    have hll : s.l.length = b.length - p := by rw [hl, List.length_drop]
    by_cases hn : 2 ≤ s.l.length
    · have C2 := ref_num_core g _ p (p + 2) _ 0 2 w hr (by decide) (by decide) (by show ((b.drop p).take 2).length ≤ 8; rw [List.length_take]; omega) (Lib.hid (ref_raw_some g A b cap p 2 w hr hB (by omega) hb))
      have en : numO s 2 = ofBe ((b.drop p).take 2) := by rw [numO, rawO_some h0 hn, hl]
      have es : rawS s 2 = ⟨b.drop (p + 2), 0⟩ := by rw [rawS_some h0 hn, hl, List.drop_drop]
      have C3 : Calls Tryd.prog 58 #[.pointer (some ⟨g, 0, none⟩), .int .i64 (2 : Nat)] w fun e w' => e = .returned (.int .u64 (numO s 2 : Int)) ∧ RfTo w g (.slice A b.length cap) (p + 2) 0 w' := by rw [en]; exact C2
      by_cases hm : most < numO s 2
      · refine (ref_text_big g _ (p + 2) (numO s 2) most w (numO_u16 s) (by omega) (Lib.hid C3)).mono ?_
        rintro e w' ⟨rfl, hr', hg⟩
        have e1 : textO s most = [] := by rw [textO, if_neg (by simp [es]), if_pos hm]
        have e2 : textS s most = ⟨[], 3⟩ := by rw [textS, if_neg (by simp [es]), if_pos hm]
        rw [e1, e2]
        exact ⟨rfl, ⟨p + 2, hr', by omega, fun k => absurd k (by decide), fun _ => rfl, RfS.kept hB hA hg, hA⟩, hg⟩
      · have e1 : textO s most = rawO (rawS s 2) (numO s 2) := by rw [textO, if_neg (by simp [es]), if_neg hm]
        have e2 : textS s most = rawS (rawS s 2) (numO s 2) := by rw [textS, if_neg (by simp [es]), if_neg hm]
        rw [e1, e2, es]
        by_cases hk : p + 2 + numO s 2 ≤ b.length
        · refine (ref_text_ok g _ (p + 2) (p + 2 + numO s 2) (numO s 2) 0 most ⟨((b.drop (p + 2)).take (numO s 2)).toArray⟩ w (numO_u16 s) (by omega) (Lib.hid C3) (Lib.hid fun w1 h1 hg1 => ref_raw_some g A b cap (p + 2) (numO s 2) w1 h1 (RfS.kept hB hA hg1) hk hb)).mono ?_
          rintro e w' ⟨rfl, hr', hg⟩
          rw [rawO_some rfl (by show numO s 2 ≤ (b.drop (p + 2)).length; rw [List.length_drop]; omega), rawS_some rfl (by show numO s 2 ≤ (b.drop (p + 2)).length; rw [List.length_drop]; omega)]
          refine ⟨rfl, ⟨p + 2 + numO s 2, hr', hk, fun _ => ?_, fun k => absurd rfl k, RfS.kept hB hA hg, hA⟩, hg⟩
          show (b.drop (p + 2)).drop (numO s 2) = _
          rw [List.drop_drop]
        · refine (ref_text_ok g _ (p + 2) (p + 2) (numO s 2) 10 most ByteArray.empty w (numO_u16 s) (by omega) (Lib.hid C3) (Lib.hid fun w1 h1 hg1 => ref_raw_short g A b.length cap (p + 2) (numO s 2) w1 h1 (by omega) hb (by omega))).mono ?_
          rintro e w' ⟨rfl, hr', hg⟩
          rw [rawO_short (by show (b.drop (p + 2)).length < _; rw [List.length_drop]; omega), rawS_short rfl (by show (b.drop (p + 2)).length < _; rw [List.length_drop]; omega)]
          exact ⟨rfl, ⟨p + 2, hr', by omega, fun k => absurd k (by decide), fun _ => rfl, RfS.kept hB hA hg, hA⟩, hg⟩
    · have C2 := ref_num_core g _ p p _ 10 2 w hr (by decide) (by decide) (by decide) (Lib.hid (ref_raw_short g A b.length cap p (2 : Nat) w hr hp hb (by omega)))
      have es : rawS s 2 = ⟨[], 10⟩ := rawS_short h0 (by omega)
      refine (ref_text_err g _ p 10 most w (by decide) (Lib.hid C2)).mono ?_
      rintro e w' ⟨rfl, hr', hg⟩
      have e1 : textO s most = [] := by rw [textO, if_pos (by simp [es])]
      have e2 : textS s most = ⟨[], 10⟩ := by rw [textS, if_pos (by simp [es]), es]
      rw [e1, e2]
      exact ⟨rfl, ⟨p, hr', hp, fun k => absurd k (by decide), fun _ => rfl, RfS.kept hB hA hg, hA⟩, hg⟩
  · refine (ref_text_met g _ p s.e most w hr h0).mono ?_
    rintro e w' ⟨rfl, rfl⟩
    have es : rawS s 2 = s := rawS_met h0 2
    have e1 : textO s most = [] := by rw [textO, es, if_pos h0]
    have e2 : textS s most = s := by rw [textS, es, if_pos h0]
    rw [e1, e2]
    exact ⟨rfl, h, World.grownBy.refl w _⟩

theorem rfEnd (g : Nat) (A : Option Addr) (cap : Nat) (b : List UInt8) (s : RS) (w : World) (h : RfS w g A cap b s) :
    Calls Tryd.prog 60 #[.pointer (some ⟨g, 0, none⟩)] w fun e w' => e = .returned (.int .i64 (endE s)) ∧ RfS w' g A cap b s ∧ w.grownBy w' (some g) := by
  obtain ⟨p, hr, hp, hl, ho, hB, hA⟩ := id h
  by_cases h0 : s.e = 0
  · rw [h0] at hr
    have hl := hl h0
    by_cases hn : p < b.length
    · have e1 : endE s = 12 := by
        rw [endE, if_neg (by simp [h0]), if_neg]
        rw [hl]
        intro k
        have := congrArg List.length k
        rw [List.length_drop] at this
        simp at this
        omega
      rw [e1]
      refine (ref_end_rest g A b.length cap p w hr hn).mono ?_
      rintro e w' ⟨rfl, hr', hg⟩
      exact ⟨rfl, ⟨p, by rw [h0]; exact hr', hp, fun _ => hl, ho, RfS.kept hB hA hg, hA⟩, hg⟩
    · have e1 : endE s = 0 := by
        rw [endE, if_neg (by simp [h0]), if_pos]
        rw [hl]
        exact List.drop_eq_nil_of_le (by omega)
      rw [e1]
      refine (ref_end_ok g A b.length cap p w hr (by omega)).mono ?_
      rintro e w' ⟨rfl, hr', hg⟩
      exact ⟨rfl, ⟨p, by rw [h0]; exact hr', hp, fun _ => hl, ho, RfS.kept hB hA hg, hA⟩, hg⟩
  · have e1 : endE s = s.e := by rw [endE, if_pos h0]
    rw [e1]
    refine (ref_end_met g _ p s.e w hr h0).mono ?_
    rintro e w' ⟨rfl, hr', hg⟩
    exact ⟨rfl, ⟨p, hr', hp, hl, ho, RfS.kept hB hA hg, hA⟩, hg⟩

theorem rfOpen (A : Option Addr) (c : Nat) (b : List UInt8) (w : World) (h : BytesAt w (.slice A b.length c) b) :
    Calls Tryd.prog 56 #[.slice A b.length c] w fun e w' => e = .returned (.pointer (some ⟨w.heap.size, 0, none⟩)) ∧ RfS w' w.heap.size A c b ⟨b, 0⟩ ∧ Below w.heap.size w w' := by
  refine (ref_open A b.length c w).mono ?_
  rintro e w' ⟨rfl, hr, hb⟩
  refine ⟨rfl, ⟨0, hr, Nat.zero_le _, fun _ => rfl, fun k => absurd rfl k, h.below hb, fun hne ad e => ?_⟩, hb⟩
  obtain ⟨ad', e', hlt⟩ := h.lt hne
  rw [e] at e'
  injection e' with e'
  subst e'
  omega
end Go.Proofs.YtpcdbpijgmninaaDoor
