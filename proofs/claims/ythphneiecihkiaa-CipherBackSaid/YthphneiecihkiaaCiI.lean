/- Package cipher as landed is what the statements' texts lean on. -/
import Derived.Test.YthphneiecihkiaaCiA
import Derived.Test.YthphneiecihkiaaCiV
namespace Go.Proofs.Ythphneiecihkiaa
open Go.RowKit

theorem cipher_is : CipherIs where
  quarter := quarter_any
  blockBad := fun A0 A1 n0 n1 cap0 cap1 c hn w => block_bad A0 A1 n0 n1 cap0 cap1 c hn w
  block := fun A0 A1 cap0 cap1 key nonce c w h0 h1 => block_any A0 A1 cap0 cap1 key nonce c w h0 h1
  xorBad := fun A0 A1 A3 n0 n1 n cap0 cap1 cap3 c hn _ w => pkgXor_bad A0 A1 A3 n0 n1 n cap0 cap1 cap3 c hn w
  xorBig := fun A0 A1 A3 n cap0 cap1 cap3 c hb hn w => pkgXor_big A0 A1 A3 n cap0 cap1 cap3 c hb hn w
  xor := fun A0 A1 A3 n cap0 cap1 cap3 key nonce msg c hb hn w h0 h1 h3 => pkgXor_any A0 A1 A3 n cap0 cap1 cap3 key nonce msg c hb hn w h0 h1 h3
end Go.Proofs.Ythphneiecihkiaa
