/- Over XGenA's words: the document's own reader (carcanetref01.R): contracts of its methods. Readers of bytes, the package's and the document's, as one: bytes that are left, the error that was met, and what each call tells and leaves. Over XGenA's words: what pack.Text and the document's Text (carcanetref01) put. Plain mathematics of readers: what was put is read, and what was read was put. Numbers of any sign, as 64 bits. A packet's kind (layer 17), as mathematics. -/
import Derived.Test.YtmnhpkdldeifgaaGreatDoorGe
import Derived.Deep.QuietTactic
import Derived.BigQuiet
import Derived.Test.YtmnhpkdldeifgaaGreatDoorGa
namespace Go.Proofs.YtmnhpkdldeifgaaGreatDoor
set_option maxRecDepth 100000
open Go.RowKit

/-- The document's reader: its bytes, its place, and the error that it met. -/
def Rf (w : World) (g : Nat) (v : Value) (at_ : Nat) (e : Int) : Prop := Whole w g 96 #[v, .int .i64 (at_ : Int), .int .i64 e]
def RfTo (w : World) (g : Nat) (v : Value) (at_ : Nat) (e : Int) (w' : World) : Prop := Rf w' g v at_ e ∧ w.grownBy w' (some g)
theorem RfTo.trans {a b c : World} {g : Nat} {v : Value} {n n' : Nat} {e e' : Int} (h : RfTo a g v n e b) (k : RfTo b g v n' e' c) : RfTo a g v n' e' c := ⟨k.1, grown_trans' h.2 k.2⟩
theorem grown_store' (w : World) (n g i : Nat) (u : Value) : w.grownBy ((w.drewN n).setCell ⟨g, i, none⟩ u) (some g) :=
  grown_trans' (grown_drewN (World.grownBy.refl w _) n) (grown_store _ _ _ _)
theorem RfTo.drewN {a w : World} {g : Nat} {v : Value} {n : Nat} {e : Int} (h : RfTo a g v n e w) (k : Nat) : RfTo a g v n e (w.drewN k) := ⟨h.1, grown_drewN h.2 k⟩


/-- A part of a slice of bytes. -/
theorem BytesAt.part {w : World} {A : Option Addr} {l : List UInt8} {cap : Nat} (h : BytesAt w (.slice A l.length cap) l) (p n : Nat) (hp : p + n ≤ l.length) :
    ∃ vs, (∀ W, (Instr.slice 25 (.slice A l.length cap) (some (.int .i64 (p : Int))) (some (.int .i64 ((p : Int) + n))) none).run Tryz.prog W = .ok vs W) ∧ BytesAt w vs ((l.drop p).take n) := by
  obtain ⟨A', cap', e, hcap, hc⟩ := h
  injection e with e1 e2 e3
  subst e1 e3
  refine ⟨.slice (if cap = p then A else A.map (·.add (p * 1))) n (cap - p), fun W => ?_, ?_⟩
  · rw [run_slice_lh W 25 A l.length cap Tryz.underlying25 .i64 .i64 _ _ (by omega) (by omega) (by omega)]
    have hs : (sizeOf (Tryz.prog.elem 25)).run Tryz.prog W = .ok 1 W := by kernel_rfl
    rw [hs]
    have e4 : ((p : Int) + n).toNat - p = n := by omega
    simp [Result.andThen, sliced, e4]
  · have hlen : ((l.drop p).take n).length = n := by simp; omega
    refine ⟨_, cap - p, by rw [hlen], by omega, fun hne => ?_⟩
    have hn : 0 < n := by
      rcases Nat.eq_zero_or_pos n with h0 | h0
      · subst h0; simp at hne
      · exact h0
    obtain ⟨ad, rfl, hcell⟩ := hc (by rintro rfl; simp at hp; omega)
    rw [if_neg (by omega)]
    refine ⟨_, rfl, fun j c hj => ?_⟩
    have ha : (ad.add (p * 1)).add j = ad.add (p + j) := by
      rw [Nat.mul_one]
      unfold Addr.add
      by_cases hi : p = 0 <;> by_cases hj : j = 0 <;> simp [hi, hj, Nat.add_assoc]
    rw [ha]
    refine hcell (p + j) c ?_
    rw [List.getElem?_take] at hj
    split at hj
    · rwa [List.getElem?_drop] at hj
    · cases hj

set_option maxHeartbeats 400000 in
theorem ref_open (A : Option Addr) (n c : Nat) (w : World) :
    Calls Tryz.prog 44 #[.slice A n c] w fun e w' => e = .returned (.pointer (some ⟨w.heap.size, 0, none⟩)) ∧ Rf w' w.heap.size (.slice A n c) 0 0 ∧ Below w.heap.size w w' := by
  have HN := Lib.hid (Whole.new w 96 #[.slice A n c, .int .i64 0, .int .i64 0])
  go_enter Tryz.func44, Tryz.ntmps44
  go_wp2
  go_ret
  exact ⟨rfl, HN.out, (Below.refl _ _).alloc (Nat.le_refl _) _⟩

set_option maxHeartbeats 400000 in
theorem ref_raw_met (g : Nat) (v : Value) (p : Nat) (e0 n : Int) (w : World) (h : Rf w g v p e0) (h0 : e0 ≠ 0) :
    Calls Tryz.prog 70 #[.pointer (some ⟨g, 0, none⟩), .int .i64 n] w fun e w' => e = .returned (.string ByteArray.empty) ∧ w = w' := by
  have c2 := h.at_ 2
  simp at c2
  have b0 : (e0 != 0) = true := by simpa using h0
  go_enter Tryz.func70, Tryz.ntmps70
  go_wp2
  go_ret
  exact ⟨rfl, rfl⟩

set_option maxHeartbeats 400000 in
theorem ref_raw_neg (g : Nat) (v : Value) (p : Nat) (n : Int) (w : World) (h : Rf w g v p 0) (hn : n < 0) :
    Calls Tryz.prog 70 #[.pointer (some ⟨g, 0, none⟩), .int .i64 n] w fun e w' => e = .returned (.string ByteArray.empty) ∧ RfTo w g v p 2 w' := by
  have c2 := h.at_ 2
  simp at c2
  have f2 := h.free 2
  have HS := Lib.hid (h.stored 2 (.int .i64 2))
  go_enter Tryz.func70, Tryz.ntmps70
  go_wp2
  go_ret
  exact ⟨rfl, HS.out, grown_store _ _ _ _⟩

set_option maxHeartbeats 400000 in
theorem ref_raw_short (g : Nat) (A : Option Addr) (len cap p : Nat) (n : Int) (w : World) (h : Rf w g (.slice A len cap) p 0) (hp : p ≤ len) (hl : len ≤ 9000) (hn : (len : Int) - p < n) :
    Calls Tryz.prog 70 #[.pointer (some ⟨g, 0, none⟩), .int .i64 n] w fun e w' => e = .returned (.string ByteArray.empty) ∧ RfTo w g (.slice A len cap) p 10 w' := by
  have c0 := h.at_ 0
  have c1 := h.at_ 1
  have c2 := h.at_ 2
  simp at c0 c1 c2
  have f2 := h.free 2
  have HS := Lib.hid (h.stored 2 (.int .i64 10))
  have n0 : 0 ≤ n := by omega
  go_enter Tryz.func70, Tryz.ntmps70
  go_wp2
  go_quiet (fail)
  go_wp2
  go_ret
  exact ⟨rfl, HS.out, grown_store' _ _ _ _ _⟩

set_option maxHeartbeats 400000 in
theorem ref_raw_some (g : Nat) (A : Option Addr) (l : List UInt8) (cap p n : Nat) (w : World) (h : Rf w g (.slice A l.length cap) p 0) (hb : BytesAt w (.slice A l.length cap) l) (hp : p + n ≤ l.length) (hl : l.length ≤ 9000) :
    Calls Tryz.prog 70 #[.pointer (some ⟨g, 0, none⟩), .int .i64 n] w fun e w' => e = .returned (.string ⟨((l.drop p).take n).toArray⟩) ∧ RfTo w g (.slice A l.length cap) (p + n) 0 w' := by
  have c0 := h.at_ 0
  have c1 := h.at_ 1
  have c2 := h.at_ 2
  simp at c0 c1 c2
  have f1 := h.free 1
  have n0 : (0 : Int) ≤ n := by omega
  have n1 : (n : Int) ≤ (l.length : Int) - p := by omega
  obtain ⟨vs, hvs, hby⟩ := hb.part p n hp
  have hcv : ∀ k, (convert 25 9 vs).run Tryz.prog (w.drewN k) = .ok (.string ⟨((l.drop p).take n).toArray⟩) (w.drewN k) := fun k => conv_bytes (hby.drewN k)
  have HS := Lib.hid (h.stored 1 (.int .i64 ((p : Int) + n)))
  generalize (⟨((l.drop p).take n).toArray⟩ : ByteArray) = out at *
  clear hby hb
  go_enter Tryz.func70, Tryz.ntmps70
  go_wp2
  go_quiet (fail)
  go_wp2
  go_quiet (fail)
  go_wp2
  go_ret
  exact ⟨rfl, by rw [Rf, Int.natCast_add]; exact HS.out, grown_store' _ _ _ _ _⟩

set_option maxHeartbeats 400000 in
theorem ref_num_core (g : Nat) (v : Value) (p p' : Nat) (raw : ByteArray) (e1 : Int) (n : Nat) (w : World) (h : Rf w g v p 0) (h1 : 1 ≤ n) (h8 : n ≤ 8) (hr : raw.size ≤ 8)
    (C : Hid (Calls Tryz.prog 70 #[.pointer (some ⟨g, 0, none⟩), .int .i64 n] w fun e w' => e = .returned (.string raw) ∧ RfTo w g v p' e1 w')) :
    Calls Tryz.prog 45 #[.pointer (some ⟨g, 0, none⟩), .int .i64 n] w fun e w' => e = .returned (.int .u64 (ofBe raw.data.toList)) ∧ RfTo w g v p' e1 w' := by
  have c2 := h.at_ 2
  simp at c2
  have d1 : decide ((n : Int) < 1) = false := by simp; omega
  have d8 : decide ((8 : Int) < (n : Int)) = false := by simp; omega
  go_enter Tryz.func45, Tryz.ntmps45
  go_wp2_with fail
  refine C.out.mono ?_
  rintro e w1 ⟨rfl, hto⟩
  have HTO := Lib.hid hto
  clear hto
  go_wp2_with fail
  go_loop [6, 7] (fun t i => ∃ k : Nat, k ≤ raw.size ∧ i = .int .i64 k ∧ t = .int .u64 (ofBe (raw.data.toList.take k))) (fun _ i => raw.size - (intOf i).toNat)
  case atStart => exact ⟨0, Nat.zero_le _, rfl, rfl⟩
  case round =>
    obtain ⟨k, hk, rfl, rfl⟩ := hrel
    by_cases hlt : k < raw.size
    · have HB := Lib.hid (add_take raw k hlt hr)
      go_wp2
      go_round
      case rel => exact ⟨k + 1, by omega, by go_num, by rw [HB.out]⟩
      case measure => simp [intOf]; omega
    · obtain rfl : k = raw.size := by omega
      have HB : Hid (raw.data.toList.take raw.size = raw.data.toList) := List.take_of_length_le (by simp)
      go_wp2
      go_ret
      exact ⟨ret_int (by rw [HB.out]), HTO.out⟩

set_option maxHeartbeats 400000 in
theorem ref_num_not (g : Nat) (v : Value) (p : Nat) (n : Int) (w : World) (h : Rf w g v p 0) (hn : n < 1 ∨ 8 < n) :
    Calls Tryz.prog 45 #[.pointer (some ⟨g, 0, none⟩), .int .i64 n] w fun e w' => e = .returned (.int .u64 0) ∧ RfTo w g v p 2 w' := by
  have c2 := h.at_ 2
  simp at c2
  have f2 := h.free 2
  have HS := Lib.hid (h.stored 2 (.int .i64 2))
  by_cases hn1 : n < 1
  · have d1 : decide (n < 1) = true := by simp; omega
    go_enter Tryz.func45, Tryz.ntmps45
    go_wp2_with fail
    refine (ref_raw_met g v p 2 n _ HS.out (by decide)).mono ?_
    rintro e w1 ⟨rfl, rfl⟩
    go_wp2
    refine wp_loop_rounds 1 ?_
    rw [rounds_succ]
    go_wp2
    go_ret
    exact ⟨rfl, HS.out, grown_store _ _ _ _⟩
  · have d1 : decide (n < 1) = false := by simp; omega
    have d8 : decide (8 < n) = true := by simp; omega
    go_enter Tryz.func45, Tryz.ntmps45
    go_wp2_with fail
    refine (ref_raw_met g v p 2 n _ HS.out (by decide)).mono ?_
    rintro e w1 ⟨rfl, rfl⟩
    go_wp2
    refine wp_loop_rounds 1 ?_
    rw [rounds_succ]
    go_wp2
    go_ret
    exact ⟨rfl, HS.out, grown_store _ _ _ _⟩

set_option maxHeartbeats 400000 in
theorem ref_num_met (g : Nat) (v : Value) (p : Nat) (e0 n : Int) (w : World) (h : Rf w g v p e0) (h0 : e0 ≠ 0) :
    Calls Tryz.prog 45 #[.pointer (some ⟨g, 0, none⟩), .int .i64 n] w fun e w' => e = .returned (.int .u64 0) ∧ w = w' := by
  have c2 := h.at_ 2
  simp at c2
  have b0 : (e0 == 0) = false := by simpa using h0
  go_enter Tryz.func45, Tryz.ntmps45
  go_wp2_with fail
  refine (ref_raw_met g v p e0 n _ h h0).mono ?_
  rintro e w1 ⟨rfl, rfl⟩
  go_wp2
  refine wp_loop_rounds 1 ?_
  rw [rounds_succ]
  go_wp2
  go_ret
  exact ⟨rfl, rfl⟩

end Go.Proofs.YtmnhpkdldeifgaaGreatDoor

namespace Go.Proofs.YtmnhpkdldeifgaaGreatDoor
set_option maxRecDepth 100000
open Go.RowKit

structure RS where
  l : List UInt8
  e : Int
deriving DecidableEq
def RS.ok (s : RS) : Prop := s.e ≠ 0 → s.l = []
def rawO (s : RS) (n : Nat) : List UInt8 := if s.e = 0 ∧ n ≤ s.l.length then s.l.take n else []
def rawS (s : RS) (n : Nat) : RS := if s.e ≠ 0 then s else if n ≤ s.l.length then ⟨s.l.drop n, 0⟩ else ⟨[], 10⟩
def numO (s : RS) (n : Nat) : Nat := ofBe (rawO s n)
def textO (s : RS) (most : Nat) : List UInt8 := if (rawS s 2).e ≠ 0 then [] else if most < numO s 2 then [] else rawO (rawS s 2) (numO s 2)
def textS (s : RS) (most : Nat) : RS := if (rawS s 2).e ≠ 0 then rawS s 2 else if most < numO s 2 then ⟨[], 3⟩ else rawS (rawS s 2) (numO s 2)
def endE (s : RS) : Int := if s.e ≠ 0 then s.e else if s.l = [] then 0 else 12

theorem rawS_ok {s : RS} (h : s.ok) (n : Nat) : (rawS s n).ok := by
  rw [rawS]
  split
  · exact h
  · split
    · intro k; exact absurd rfl k
    · intro _; rfl
theorem textS_ok {s : RS} (h : s.ok) (n : Nat) : (textS s n).ok := by
  rw [textS]
  split
  · exact rawS_ok h 2
  · split
    · intro _; rfl
    · exact rawS_ok (rawS_ok h 2) _
theorem rawO_met {s : RS} (h : s.e ≠ 0) (n : Nat) : rawO s n = [] := by rw [rawO, if_neg (fun k => h k.1)]
theorem rawO_length (s : RS) (n : Nat) : (rawO s n).length ≤ n := by
  rw [rawO]
  split
  · rw [List.length_take]; omega
  · simp
theorem rawO_some {s : RS} (h : s.e = 0) {n : Nat} (hn : n ≤ s.l.length) : rawO s n = s.l.take n := by rw [rawO, if_pos ⟨h, hn⟩]
theorem rawO_short {s : RS} {n : Nat} (hn : s.l.length < n) : rawO s n = [] := by rw [rawO, if_neg (fun k => by omega)]
theorem rawS_met {s : RS} (h : s.e ≠ 0) (n : Nat) : rawS s n = s := by rw [rawS, if_pos h]
theorem rawS_some {s : RS} (h : s.e = 0) {n : Nat} (hn : n ≤ s.l.length) : rawS s n = ⟨s.l.drop n, 0⟩ := by rw [rawS, if_neg (by simp [h]), if_pos hn]
theorem rawS_short {s : RS} (h : s.e = 0) {n : Nat} (hn : s.l.length < n) : rawS s n = ⟨[], 10⟩ := by rw [rawS, if_neg (by simp [h]), if_neg (by omega)]
theorem rawS_less (s : RS) (n : Nat) : (rawS s n).l.length ≤ s.l.length := by
  rw [rawS]
  split
  · exact Nat.le_refl _
  · split
    · simp
    · simp
theorem numO_lt (s : RS) (n : Nat) : numO s n < 256 ^ n := Nat.lt_of_lt_of_le (ofBe_lt _) (Nat.pow_le_pow_right (by decide) (rawO_length s n))
theorem numO_u16 (s : RS) : numO s 2 ≤ 65535 := by have := numO_lt s 2; omega

theorem ext_drop (l : List UInt8) (n : Nat) : (⟨l.toArray⟩ : ByteArray).extract n (⟨l.toArray⟩ : ByteArray).size = ⟨(l.drop n).toArray⟩ := by
  have h : (⟨l.toArray⟩ : ByteArray).size = l.length := rfl
  rw [h]
  apply ByteArray.ext
  simp
  exact List.take_of_length_le (by simp)
theorem str_empty : (⟨([] : List UInt8).toArray⟩ : ByteArray) = ByteArray.empty := rfl

/-- The package's reader. -/
def RdS (w : World) (g : Nat) (s : RS) : Prop := Rd w g ⟨s.l.toArray⟩ s.e ∧ s.ok
theorem met_ne {e k : Int} (h : e ≠ 0) : met e k = e := by rw [met, if_neg h]

theorem pkRaw (g n : Nat) (s : RS) (w : World) (h : RdS w g s) :
    Calls Tryz.prog 86 #[.pointer (some ⟨g, 0, none⟩), .int .i64 (n : Int)] w fun e w' => e = .returned (.string ⟨(rawO s n).toArray⟩) ∧ RdS w' g (rawS s n) ∧ w.grownBy w' (some g) := by
  have hsz : (⟨s.l.toArray⟩ : ByteArray).size = s.l.length := rfl
  by_cases hn : n ≤ s.l.length
  · refine (raw_some g _ s.e n w h.1 (by rw [hsz]; exact hn)).mono ?_
    rintro e w' ⟨rfl, hr, hg⟩
    rw [ext_take, ext_drop] at *
    by_cases h0 : s.e = 0
    · rw [rawO_some h0 hn, rawS_some h0 hn]
      rw [h0] at hr
      exact ⟨rfl, ⟨hr, fun k => absurd rfl k⟩, hg⟩
    · have hl := h.2 h0
      rw [rawO_met h0, rawS_met h0]
      rw [hl] at hr ⊢
      simp only [List.take_nil, List.drop_nil] at hr ⊢
      exact ⟨trivial, ⟨by rw [hl]; exact hr, h.2⟩, hg⟩
  · have hs : s.e ≠ 0 → (⟨s.l.toArray⟩ : ByteArray) = ByteArray.empty := fun k => by rw [h.2 k]; rfl
    refine (raw_short g _ s.e n w h.1 hs (by rw [hsz]; omega)).mono ?_
    rintro e w' ⟨rfl, hr, hg⟩
    rw [rawO_short (by omega)]
    by_cases h0 : s.e = 0
    · rw [rawS_short h0 (by omega)]
      rw [h0, met, if_pos rfl] at hr
      exact ⟨rfl, ⟨hr, fun _ => rfl⟩, hg⟩
    · rw [rawS_met h0]
      rw [met_ne h0] at hr
      exact ⟨rfl, ⟨by rw [h.2 h0]; exact hr, h.2⟩, hg⟩

theorem pkNum (g n : Nat) (s : RS) (w : World) (h : RdS w g s) (h1 : 1 ≤ n) (h8 : n ≤ 8) :
    Calls Tryz.prog 68 #[.pointer (some ⟨g, 0, none⟩), .int .i64 (n : Int)] w fun e w' => e = .returned (.int .u64 (numO s n : Int)) ∧ RdS w' g (rawS s n) ∧ w.grownBy w' (some g) := by
  have C := (pkRaw g n s w h).mono (R' := fun e w' => e = .returned (.string ⟨(rawO s n).toArray⟩) ∧ RdTo w g ⟨(rawS s n).l.toArray⟩ (rawS s n).e w') fun e w' ⟨a, b, c⟩ => ⟨a, b.1, c⟩
  have hl := rawO_length s n
  refine (read_num_core g ⟨(rawO s n).toArray⟩ _ _ n w h1 h8 (Nat.le_trans hl h8) (Lib.hid C)).mono ?_
  rintro e w' ⟨rfl, hr, hg⟩
  exact ⟨rfl, ⟨hr, rawS_ok h.2 n⟩, hg⟩

set_option maxHeartbeats 400000 in
theorem pkOpen (A : Option Addr) (n c : Nat) (b : List UInt8) (w : World) (h : BytesAt w (.slice A n c) b) :
    Calls Tryz.prog 67 #[.slice A n c] w fun e w' => e = .returned (.pointer (some ⟨w.heap.size, 0, none⟩)) ∧ RdS w' w.heap.size ⟨b, 0⟩ ∧ Below w.heap.size w w' := by
  have hc := fun w' (hb : Below w.heap.size w w') => conv_bytes (h.below hb)
  have hc0 := hc w (Below.refl _ _)
  have HN := Lib.hid (Whole.new w 114 #[.string ⟨b.toArray⟩, .int .i64 0])
  clear h hc
  go_enter Tryz.func67, Tryz.ntmps67
  go_wp2
  go_ret
  exact ⟨rfl, ⟨HN.out, fun k => absurd rfl k⟩, (Below.refl _ _).alloc (Nat.le_refl _) _⟩

/-- The document's reader of the bytes b. -/
def RfS (w : World) (g : Nat) (A : Option Addr) (cap : Nat) (b : List UInt8) (s : RS) : Prop :=
  ∃ p, Rf w g (.slice A b.length cap) p s.e ∧ p ≤ b.length ∧ (s.e = 0 → s.l = b.drop p) ∧ s.ok ∧ BytesAt w (.slice A b.length cap) b ∧ (b ≠ [] → ∀ ad, A = some ad → ad.block ≠ g)
theorem RfS.kept {w w' : World} {g : Nat} {A : Option Addr} {cap : Nat} {b : List UInt8} (h : BytesAt w (.slice A b.length cap) b) (hA : b ≠ [] → ∀ ad, A = some ad → ad.block ≠ g) (hg : w.grownBy w' (some g)) : BytesAt w' (.slice A b.length cap) b :=
  h.keep fun hb k hk ho => hg.block k hk (by
    cases A with
    | none => cases ho
    | some ad =>
      injection ho with ho
      subst ho
      intro e
      injection e with e
      exact hA hb ad rfl e)

theorem rfRaw (g n : Nat) (A : Option Addr) (cap : Nat) (b : List UInt8) (s : RS) (w : World) (h : RfS w g A cap b s) (hb : b.length ≤ 9000) :
    Calls Tryz.prog 70 #[.pointer (some ⟨g, 0, none⟩), .int .i64 (n : Int)] w fun e w' => e = .returned (.string ⟨(rawO s n).toArray⟩) ∧ RfS w' g A cap b (rawS s n) ∧ w.grownBy w' (some g) := by
  obtain ⟨p, hr, hp, hl, ho, hB, hA⟩ := h
  by_cases h0 : s.e = 0
  · rw [h0] at hr
    have hl := hl h0
    have hll : s.l.length = b.length - p := by rw [hl, List.length_drop]
    by_cases hn : n ≤ s.l.length
    · refine (ref_raw_some g A b cap p n w hr hB (by omega) hb).mono ?_
      rintro e w' ⟨rfl, hr', hg⟩
      rw [rawO_some h0 hn, rawS_some h0 hn, hl]
      refine ⟨rfl, ⟨p + n, hr', by omega, fun _ => ?_, fun k => absurd rfl k, RfS.kept hB hA hg, hA⟩, hg⟩
      show (b.drop p).drop n = b.drop (p + n)
      rw [List.drop_drop]
    · refine (ref_raw_short g A b.length cap p n w hr hp hb (by omega)).mono ?_
      rintro e w' ⟨rfl, hr', hg⟩
      rw [rawO_short (by omega), rawS_short h0 (by omega)]
      exact ⟨rfl, ⟨p, hr', hp, fun k => absurd k (by decide), fun _ => rfl, RfS.kept hB hA hg, hA⟩, hg⟩
  · refine (ref_raw_met g _ p s.e n w hr h0).mono ?_
    rintro e w' ⟨rfl, rfl⟩
    rw [rawO_met h0, rawS_met h0]
    exact ⟨rfl, ⟨p, hr, hp, hl, ho, hB, hA⟩, World.grownBy.refl w _⟩

theorem rfNum (g n : Nat) (A : Option Addr) (cap : Nat) (b : List UInt8) (s : RS) (w : World) (h : RfS w g A cap b s) (hb : b.length ≤ 9000) (h1 : 1 ≤ n) (h8 : n ≤ 8) :
    Calls Tryz.prog 45 #[.pointer (some ⟨g, 0, none⟩), .int .i64 (n : Int)] w fun e w' => e = .returned (.int .u64 (numO s n : Int)) ∧ RfS w' g A cap b (rawS s n) ∧ w.grownBy w' (some g) := by
  have C := rfRaw g n A cap b s w h hb
  obtain ⟨p, hr, hp, hl, ho, hB, hA⟩ := h
  by_cases h0 : s.e = 0
  · rw [h0] at hr
    have hl := hl h0
    have hll : s.l.length = b.length - p := by rw [hl, List.length_drop]
    have hlen := rawO_length s n
    by_cases hn : n ≤ s.l.length
    · have C2 := ref_raw_some g A b cap p n w hr hB (by omega) hb
      refine (ref_num_core g _ p (p + n) _ 0 n w hr h1 h8 (by show ((b.drop p).take n).length ≤ 8; rw [List.length_take]; omega) (Lib.hid C2)).mono ?_
      rintro e w' ⟨rfl, hr', hg⟩
      rw [numO, rawO_some h0 hn, rawS_some h0 hn, hl]
      refine ⟨rfl, ⟨p + n, hr', by omega, fun _ => ?_, fun k => absurd rfl k, RfS.kept hB hA hg, hA⟩, hg⟩
      show (b.drop p).drop n = b.drop (p + n)
      rw [List.drop_drop]
    · have C2 := ref_raw_short g A b.length cap p n w hr hp hb (by omega)
      refine (ref_num_core g _ p p _ 10 n w hr h1 h8 (by decide) (Lib.hid C2)).mono ?_
      rintro e w' ⟨rfl, hr', hg⟩
      rw [numO, rawO_short (by omega), rawS_short h0 (by omega)]
      exact ⟨rfl, ⟨p, hr', hp, fun k => absurd k (by decide), fun _ => rfl, RfS.kept hB hA hg, hA⟩, hg⟩
  · refine (ref_num_met g _ p s.e n w hr h0).mono ?_
    rintro e w' ⟨rfl, rfl⟩
    rw [numO, rawO_met h0, rawS_met h0]
    exact ⟨rfl, ⟨p, hr, hp, hl, ho, hB, hA⟩, World.grownBy.refl w _⟩

theorem rfOpen (A : Option Addr) (c : Nat) (b : List UInt8) (w : World) (h : BytesAt w (.slice A b.length c) b) :
    Calls Tryz.prog 44 #[.slice A b.length c] w fun e w' => e = .returned (.pointer (some ⟨w.heap.size, 0, none⟩)) ∧ RfS w' w.heap.size A c b ⟨b, 0⟩ ∧ Below w.heap.size w w' := by
  refine (ref_open A b.length c w).mono ?_
  rintro e w' ⟨rfl, hr, hb⟩
  refine ⟨rfl, ⟨0, hr, Nat.zero_le _, fun _ => rfl, fun k => absurd rfl k, h.below hb, fun hne ad e => ?_⟩, hb⟩
  obtain ⟨ad', e', hlt⟩ := h.lt hne
  rw [e] at e'
  injection e' with e'
  subst e'
  omega
end Go.Proofs.YtmnhpkdldeifgaaGreatDoor

namespace Go.Proofs.YtmnhpkdldeifgaaGreatDoor
set_option maxRecDepth 100000
open Go.RowKit

/-- A text, as it is put. -/
def encS (s : ByteArray) : List UInt8 := be 2 s.size ++ s.data.toList
theorem encS_length (s : ByteArray) : (encS s).length = 2 + s.size := by simp [encS, be_length]

end Go.Proofs.YtmnhpkdldeifgaaGreatDoor

namespace Go.Proofs.YtmnhpkdldeifgaaGreatDoor
set_option maxRecDepth 100000
open Go.RowKit

theorem ofBe_from (l : List UInt8) : ∀ n : Nat, l.foldl (fun n c => n * 256 + c.toNat) n = n * 256 ^ l.length + ofBe l := by
  induction l with
  | nil => intro n; simp [ofBe]
  | cons c l ih =>
    intro n
    simp only [ofBe, List.foldl_cons, List.length_cons]
    rw [ih, ih (0 * 256 + c.toNat), Nat.pow_succ]
    have e1 : (n * 256 + c.toNat) * 256 ^ l.length = n * (256 ^ l.length * 256) + c.toNat * 256 ^ l.length := by
      rw [Nat.add_mul, Nat.mul_assoc, Nat.mul_comm 256]
    rw [e1]
    have e2 : (0 * 256 + c.toNat) * 256 ^ l.length = c.toNat * 256 ^ l.length := by rw [Nat.zero_mul, Nat.zero_add]
    rw [e2]
    omega
theorem ofBe_cons (c : UInt8) (l : List UInt8) : ofBe (c :: l) = c.toNat * 256 ^ l.length + ofBe l := by
  show (c :: l).foldl (fun n c => n * 256 + c.toNat) 0 = _
  rw [List.foldl_cons, ofBe_from, Nat.zero_mul, Nat.zero_add]
theorem ofBe_be (k x : Nat) : ofBe (be k x) = x % 256 ^ k := by
  induction k with
  | zero => simp [be, beTo, ofBe, Nat.mod_one]
  | succ k ih =>
    rw [be_succ, ofBe_cons, ih, be_length]
    have h : (UInt8.ofNat (x / 256 ^ k % 256)).toNat = x / 256 ^ k % 256 := by
      simp only [UInt8.toNat_ofNat']; omega
    rw [h, Nat.pow_succ, Nat.mod_mul, Nat.mul_comm (x / 256 ^ k % 256), Nat.add_comm]
theorem ofBe_inj (a b : List UInt8) (hl : a.length = b.length) (h : ofBe a = ofBe b) : a = b := by
  induction a generalizing b with
  | nil => exact (List.length_eq_zero_iff.1 hl.symm).symm
  | cons c a ih =>
    cases b with
    | nil => simp at hl
    | cons d b =>
      simp only [List.length_cons, Nat.add_right_cancel_iff] at hl
      rw [ofBe_cons, ofBe_cons, hl] at h
      have ha := ofBe_lt a
      rw [hl] at ha
      have hb := ofBe_lt b
      have hd : c.toNat = d.toNat := by
        have h1 : (c.toNat * 256 ^ b.length + ofBe a) / 256 ^ b.length = c.toNat := by
          rw [Nat.mul_comm, Nat.mul_add_div (Nat.pow_pos (by decide)), Nat.div_eq_of_lt ha, Nat.add_zero]
        have h2 : (d.toNat * 256 ^ b.length + ofBe b) / 256 ^ b.length = d.toNat := by
          rw [Nat.mul_comm, Nat.mul_add_div (Nat.pow_pos (by decide)), Nat.div_eq_of_lt hb, Nat.add_zero]
        rw [← h1, ← h2, h]
      have hcd : c = d := UInt8.toNat_inj.1 hd
      subst hcd
      rw [ih b hl (by omega)]
theorem be_ofBe (l : List UInt8) : be l.length (ofBe l) = l :=
  ofBe_inj _ _ (be_length _ _) (by rw [ofBe_be, Nat.mod_eq_of_lt (ofBe_lt l)])

/-- What was put is read. -/
theorem raw_put (t r : List UInt8) (n : Nat) (hn : n = t.length) : rawO ⟨t ++ r, 0⟩ n = t ∧ rawS ⟨t ++ r, 0⟩ n = ⟨r, 0⟩ := by
  subst hn
  rw [rawO_some rfl (by simp), rawS_some rfl (by simp)]
  simp
theorem num_put (k x : Nat) (r : List UInt8) (hx : x < 256 ^ k) : numO ⟨be k x ++ r, 0⟩ k = x ∧ rawS ⟨be k x ++ r, 0⟩ k = ⟨r, 0⟩ := by
  obtain ⟨h1, h2⟩ := raw_put (be k x) r k (be_length k x).symm
  exact ⟨by rw [numO, h1, ofBe_be, Nat.mod_eq_of_lt hx], h2⟩
theorem text_put (n r : List UInt8) (most : Nat) (hn : n.length ≤ most) (h16 : n.length ≤ 65535) : textO ⟨encS ⟨n.toArray⟩ ++ r, 0⟩ most = n ∧ textS ⟨encS ⟨n.toArray⟩ ++ r, 0⟩ most = ⟨r, 0⟩ := by
  have e : encS ⟨n.toArray⟩ ++ r = be 2 n.length ++ (n ++ r) := by
    show be 2 n.length ++ n.toArray.toList ++ r = _
    simp
  rw [e]
  obtain ⟨h1, h2⟩ := num_put 2 n.length (n ++ r) (by omega)
  obtain ⟨h3, h4⟩ := raw_put n r n.length rfl
  have hm : ¬ most < n.length := by omega
  constructor
  · rw [textO, h2, if_neg (by simp), h1, if_neg hm, h3]
  · rw [textS, h2, if_neg (by simp), h1, if_neg hm, h4]
/-- What was read was put. -/
theorem raw_back {s : RS} {n : Nat} (h : (rawS s n).e = 0) : s.e = 0 ∧ (rawO s n).length = n ∧ s.l = rawO s n ++ (rawS s n).l := by
  by_cases h0 : s.e = 0
  · by_cases hn : n ≤ s.l.length
    · rw [rawO_some h0 hn, rawS_some h0 hn]
      exact ⟨h0, by rw [List.length_take]; omega, (List.take_append_drop n s.l).symm⟩
    · rw [rawS_short h0 (by omega)] at h
      exact absurd h (by decide)
  · rw [rawS_met h0] at h
    exact absurd h h0
theorem num_back {s : RS} {n : Nat} (h : (rawS s n).e = 0) : s.e = 0 ∧ numO s n < 256 ^ n ∧ s.l = be n (numO s n) ++ (rawS s n).l := by
  obtain ⟨h1, h2, h3⟩ := raw_back h
  have e := be_ofBe (rawO s n)
  rw [h2] at e
  exact ⟨h1, numO_lt s n, by rw [numO, e]; exact h3⟩
theorem text_back {s : RS} {most : Nat} (h : (textS s most).e = 0) : s.e = 0 ∧ (textO s most).length ≤ most ∧ (textO s most).length ≤ 65535 ∧ s.l = encS ⟨(textO s most).toArray⟩ ++ (textS s most).l := by
  by_cases h0 : (rawS s 2).e = 0
  · obtain ⟨h1, h2, h3⟩ := num_back h0
    by_cases hm : most < numO s 2
    · rw [textS, if_neg (by simp [h0]), if_pos hm] at h
      exact absurd h (by decide)
    · have e1 : textO s most = rawO (rawS s 2) (numO s 2) := by rw [textO, if_neg (by simp [h0]), if_neg hm]
      have e2 : textS s most = rawS (rawS s 2) (numO s 2) := by rw [textS, if_neg (by simp [h0]), if_neg hm]
      rw [e2] at h
      obtain ⟨h4, h5, h6⟩ := raw_back h
      rw [e1, e2, h5]
      refine ⟨h1, by omega, numO_u16 s, ?_⟩
      rw [h3, h6]
      show _ = be 2 (rawO (rawS s 2) (numO s 2)).length ++ (rawO (rawS s 2) (numO s 2)).toArray.toList ++ _
      rw [h5]
      simp
  · rw [textS, if_pos h0] at h
    exact absurd h h0
theorem end_back {s : RS} (h : endE s = 0) : s.e = 0 ∧ s.l = [] := by
  by_cases h0 : s.e = 0
  · by_cases hl : s.l = []
    · exact ⟨h0, hl⟩
    · rw [endE, if_neg (by simp [h0]), if_neg hl] at h
      exact absurd h (by decide)
  · rw [endE, if_pos h0] at h
    exact absurd h h0
end Go.Proofs.YtmnhpkdldeifgaaGreatDoor

namespace Go.Proofs.YtmnhpkdldeifgaaGreatDoor
set_option maxRecDepth 100000

/-- A number of any sign, as 64 bits. -/
def uN (i : Int) : Nat := (i % 18446744073709551616).toNat
theorem uN_lt (i : Int) : uN i < 18446744073709551616 := by
  have := Int.emod_lt_of_pos i (show (0 : Int) < 18446744073709551616 by decide)
  have := Int.emod_nonneg i (show (18446744073709551616 : Int) ≠ 0 by decide)
  rw [uN]
  omega
theorem uN_wrap (i : Int) : IntKind.u64.wrap i = (uN i : Int) := by
  have := Int.emod_nonneg i (show (18446744073709551616 : Int) ≠ 0 by decide)
  rw [uN, Int.toNat_of_nonneg this]
  rfl
end Go.Proofs.YtmnhpkdldeifgaaGreatDoor

namespace Go.Proofs.YtmnhpkdldeifgaaGreatDoor
set_option maxRecDepth 100000

/-- A packet's kind. -/
def kindB : List UInt8 → Int
  | [] => 0
  | c :: _ => if 1 ≤ c.toNat ∧ c.toNat ≤ 4 then (c.toNat : Int) else 0
theorem kind_cons {b : List UInt8} {k : Int} (h : kindB b = k) (hk : k ≠ 0) : ∃ c r, b = c :: r ∧ (c.toNat : Int) = k := by
  cases b with
  | nil => exact absurd h.symm hk
  | cons c r =>
    refine ⟨c, r, rfl, ?_⟩
    rw [kindB] at h
    split at h
    · exact h
    · exact absurd h.symm hk

end Go.Proofs.YtmnhpkdldeifgaaGreatDoor
