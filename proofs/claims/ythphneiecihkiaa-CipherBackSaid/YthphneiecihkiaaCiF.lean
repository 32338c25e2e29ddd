/- Block and Xor of package cipher, and the document's, for keys, nonces and messages of any size. -/
import Derived.Test.YthphneiecihkiaaCiA
namespace Go.Proofs.Ythphneiecihkiaa
open Go.RowKit

def blA (n0 n1 : Nat) (key nonce : List UInt8) (c : UInt32) : List UInt8 := if n0 ≠ 32 ∨ n1 ≠ 12 then [] else blockC key nonce c
def blC (n0 n1 : Nat) : Int := if n0 ≠ 32 ∨ n1 ≠ 12 then 2 else 0
def xoA (n0 n1 n : Nat) (key nonce : List UInt8) (c : UInt32) (msg : List UInt8) : List UInt8 := if n0 ≠ 32 ∨ n1 ≠ 12 then [] else if 4294967296 - c.toNat < (n + 63) / 64 then [] else xorC key nonce c msg
def xoC (n0 n1 n : Nat) (c : UInt32) : Int := if n0 ≠ 32 ∨ n1 ≠ 12 then 2 else if 4294967296 - c.toNat < (n + 63) / 64 then 3 else 0

theorem CipherIs.blockAll (H : CipherIs) (A0 A1 : Option Addr) (n0 n1 cap0 cap1 : Nat) (key nonce : List UInt8) (c : UInt32) (w : World) (h0 : BytesAt w (.slice A0 n0 cap0) key) (h1 : BytesAt w (.slice A1 n1 cap1) nonce) :
    Calls Try.prog 10 #[.slice A0 n0 cap0, .slice A1 n1 cap1, wd c] w fun e w' => ∃ v', e = .returned (.tuple #[v', .int .i64 (blC n0 n1)]) ∧ BytesAt w' v' (blA n0 n1 key nonce c) ∧ Below w.heap.size w w' := by
  by_cases h : n0 ≠ 32 ∨ n1 ≠ 12
  · rw [blA, blC, if_pos h, if_pos h]
    exact (H.blockBad A0 A1 n0 n1 cap0 cap1 c h w).mono fun _ _ ⟨he, hb⟩ => ⟨_, he, BytesAt.nil _, hb⟩
  · rw [blA, blC, if_neg h, if_neg h]
    obtain rfl : n0 = 32 := by omega
    obtain rfl : n1 = 12 := by omega
    exact H.block A0 A1 cap0 cap1 key nonce c w h0 h1
theorem refBlock_all (A0 A1 : Option Addr) (n0 n1 cap0 cap1 : Nat) (key nonce : List UInt8) (c : UInt32) (w : World) (h0 : BytesAt w (.slice A0 n0 cap0) key) (h1 : BytesAt w (.slice A1 n1 cap1) nonce) :
    Calls Try.prog 11 #[.slice A0 n0 cap0, .slice A1 n1 cap1, wd c] w fun e w' => ∃ v', e = .returned (.tuple #[v', .int .i64 (blC n0 n1)]) ∧ BytesAt w' v' (blA n0 n1 key nonce c) ∧ Below w.heap.size w w' := by
  by_cases h : n0 ≠ 32 ∨ n1 ≠ 12
  · rw [blA, blC, if_pos h, if_pos h]
    exact (refBlock_bad A0 A1 n0 n1 cap0 cap1 (wd c) h w).mono fun _ _ ⟨he, hb⟩ => ⟨_, he, BytesAt.nil _, hb⟩
  · rw [blA, blC, if_neg h, if_neg h]
    obtain rfl : n0 = 32 := by omega
    obtain rfl : n1 = 12 := by omega
    refine (refBlock_any A0 A1 cap0 cap1 key nonce c w h0 h1).mono fun _ _ ⟨v', he, ho, hb⟩ => ⟨v', he, ?_, hb⟩
    exact BytesAt.of_own (by rw [blockC_length]; exact ho)
theorem CipherIs.xorAll (H : CipherIs) (A0 A1 A3 : Option Addr) (n0 n1 n cap0 cap1 cap3 : Nat) (key nonce msg : List UInt8) (c : UInt32) (hn : n ≤ 1000000) (w : World) (h0 : BytesAt w (.slice A0 n0 cap0) key) (h1 : BytesAt w (.slice A1 n1 cap1) nonce) (h3 : BytesAt w (.slice A3 n cap3) msg) :
    Calls Try.prog 12 #[.slice A0 n0 cap0, .slice A1 n1 cap1, wd c, .slice A3 n cap3] w fun e w' => ∃ v', e = .returned (.tuple #[v', .int .i64 (xoC n0 n1 n c)]) ∧ BytesAt w' v' (xoA n0 n1 n key nonce c msg) ∧ Below w.heap.size w w' := by
  by_cases h : n0 ≠ 32 ∨ n1 ≠ 12
  · rw [xoA, xoC, if_pos h, if_pos h]
    exact (H.xorBad A0 A1 A3 n0 n1 n cap0 cap1 cap3 c h hn w).mono fun _ _ ⟨he, hb⟩ => ⟨_, he, BytesAt.nil _, hb⟩
  · rw [xoA, xoC, if_neg h, if_neg h]
    obtain rfl : n0 = 32 := by omega
    obtain rfl : n1 = 12 := by omega
    by_cases hb : 4294967296 - c.toNat < (n + 63) / 64
    · rw [if_pos hb, if_pos hb]
      exact (H.xorBig A0 A1 A3 n cap0 cap1 cap3 c hb hn w).mono fun _ _ ⟨he, hb⟩ => ⟨_, he, BytesAt.nil _, hb⟩
    · rw [if_neg hb, if_neg hb]
      exact H.xor A0 A1 A3 n cap0 cap1 cap3 key nonce msg c (by omega) hn w h0 h1 h3
theorem refXor_all (A0 A1 A3 : Option Addr) (n0 n1 n cap0 cap1 cap3 : Nat) (key nonce msg : List UInt8) (c : UInt32) (hn : n ≤ 1000000) (w : World) (h0 : BytesAt w (.slice A0 n0 cap0) key) (h1 : BytesAt w (.slice A1 n1 cap1) nonce) (h3 : BytesAt w (.slice A3 n cap3) msg) :
    Calls Try.prog 13 #[.slice A0 n0 cap0, .slice A1 n1 cap1, wd c, .slice A3 n cap3] w fun e w' => ∃ v', e = .returned (.tuple #[v', .int .i64 (xoC n0 n1 n c)]) ∧ BytesAt w' v' (xoA n0 n1 n key nonce c msg) ∧ Below w.heap.size w w' := by
  by_cases h : n0 ≠ 32 ∨ n1 ≠ 12
  · rw [xoA, xoC, if_pos h, if_pos h]
    exact (refXor_bad A0 A1 n0 n1 cap0 cap1 (wd c) _ h w).mono fun _ _ ⟨he, hb⟩ => ⟨_, he, BytesAt.nil _, hb⟩
  · rw [xoA, xoC, if_neg h, if_neg h]
    obtain rfl : n0 = 32 := by omega
    obtain rfl : n1 = 12 := by omega
    by_cases hb : 4294967296 - c.toNat < (n + 63) / 64
    · rw [if_pos hb, if_pos hb]
      exact (refXor_big A0 A1 A3 n cap0 cap1 cap3 c hb hn w).mono fun _ _ ⟨he, hb⟩ => ⟨_, he, BytesAt.nil _, hb⟩
    · rw [if_neg hb, if_neg hb]
      exact refXor_any A0 A1 A3 n cap0 cap1 cap3 key nonce msg c (by omega) hn w h0 h1 h3
end Go.Proofs.Ythphneiecihkiaa
