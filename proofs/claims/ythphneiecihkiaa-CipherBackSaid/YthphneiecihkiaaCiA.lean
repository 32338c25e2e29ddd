/- What the texts of layer 6's statements lean on of package cipher, as one thing to prove: each call's answer. -/
import Derived.Test.YthphneiecihkiaaCiX
namespace Go.Proofs.Ythphneiecihkiaa
open Go.RowKit

structure CipherIs : Prop where
  quarter : ∀ (a b c d : UInt32) (w : World),
    Calls Try.prog 7 #[wd a, wd b, wd c, wd d] w fun e w' => e = .returned (.tuple #[wd (quarter a b c d).1, wd (quarter a b c d).2.1, wd (quarter a b c d).2.2.1, wd (quarter a b c d).2.2.2]) ∧ Below w.heap.size w w'
  blockBad : ∀ (A0 A1 : Option Addr) (n0 n1 cap0 cap1 : Nat) (c : UInt32) (_ : n0 ≠ 32 ∨ n1 ≠ 12) (w : World),
    Calls Try.prog 10 #[.slice A0 n0 cap0, .slice A1 n1 cap1, wd c] w fun e w' => e = .returned (.tuple #[.slice none 0 0, .int .i64 2]) ∧ Below w.heap.size w w'
  block : ∀ (A0 A1 : Option Addr) (cap0 cap1 : Nat) (key nonce : List UInt8) (c : UInt32) (w : World) (_ : BytesAt w (.slice A0 32 cap0) key) (_ : BytesAt w (.slice A1 12 cap1) nonce),
    Calls Try.prog 10 #[.slice A0 32 cap0, .slice A1 12 cap1, wd c] w fun e w' => ∃ v', e = .returned (.tuple #[v', .int .i64 0]) ∧ BytesAt w' v' (blockC key nonce c) ∧ Below w.heap.size w w'
  xorBad : ∀ (A0 A1 A3 : Option Addr) (n0 n1 n cap0 cap1 cap3 : Nat) (c : UInt32) (_ : n0 ≠ 32 ∨ n1 ≠ 12) (_ : n ≤ 1000000) (w : World),
    Calls Try.prog 12 #[.slice A0 n0 cap0, .slice A1 n1 cap1, wd c, .slice A3 n cap3] w fun e w' => e = .returned (.tuple #[.slice none 0 0, .int .i64 2]) ∧ Below w.heap.size w w'
  xorBig : ∀ (A0 A1 A3 : Option Addr) (n cap0 cap1 cap3 : Nat) (c : UInt32) (_ : 4294967296 - c.toNat < (n + 63) / 64) (_ : n ≤ 1000000) (w : World),
    Calls Try.prog 12 #[.slice A0 32 cap0, .slice A1 12 cap1, wd c, .slice A3 n cap3] w fun e w' => e = .returned (.tuple #[.slice none 0 0, .int .i64 3]) ∧ Below w.heap.size w w'
  xor : ∀ (A0 A1 A3 : Option Addr) (n cap0 cap1 cap3 : Nat) (key nonce msg : List UInt8) (c : UInt32) (_ : (n + 63) / 64 ≤ 4294967296 - c.toNat) (_ : n ≤ 1000000) (w : World) (_ : BytesAt w (.slice A0 32 cap0) key) (_ : BytesAt w (.slice A1 12 cap1) nonce) (_ : BytesAt w (.slice A3 n cap3) msg),
    Calls Try.prog 12 #[.slice A0 32 cap0, .slice A1 12 cap1, wd c, .slice A3 n cap3] w fun e w' => ∃ v', e = .returned (.tuple #[v', .int .i64 0]) ∧ BytesAt w' v' (xorC key nonce c msg) ∧ Below w.heap.size w w'
end Go.Proofs.Ythphneiecihkiaa
