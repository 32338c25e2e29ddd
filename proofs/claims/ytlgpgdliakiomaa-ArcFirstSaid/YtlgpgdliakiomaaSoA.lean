/- The library's stable sort at elements of one cell (uint64), walked: exchanges of two parts, rotation. -/
import Derived.Test.YtlgpgdliakiomaaGenS
import Derived.Test.YtlgpgdliakiomaaSoM
import Derived.Shelf.SlSortCmp.Kit1
import Derived.Sort.WalkB2
import Derived.Sort.WalkB12
import Derived.Deep.LoopGhost
namespace Go.Proofs.Ytlgpgdliakiomaa
open Go.Shelf Go.RowKit Go.Lib Go.Sort Go.Proofs

/-- An element as its cell. -/
def encU (n : Nat) : Value := .int .u64 (n : Int)

set_option maxRecDepth 1000000 in
set_option maxHeartbeats 4000000 in
theorem swapRange_any (g : Nat) (cb : Array Value) (blk off cap a b n : Nat) (d0 d : Array Nat) (w0 w : World)
    (R : Row1 encU w0 blk off d0) (hs : d0.size = d.size) (S : SW encU w0 blk off d w) (hsz : d.size < 4611686018427387904) (ha : a + n ≤ d.size) (hb : b + n ≤ d.size) :
    Calls Try.prog 31 #[.slice (some ⟨blk, off, none⟩) d.size cap, .int .i64 (a : Int), .int .i64 (b : Int), .int .i64 (n : Int), .func (.func g) #[] cb] w fun e w' => e = .returned (.tuple #[]) ∧ SW encU w0 blk off (swapTo d a b n) w' := by
  have mixed : Try.prog.follows .mixedOrders = true := by kernel_rfl
  have S0 : Aside (SW encU w0 blk off d w) := S
  clear S
  go_enter Try.func31, Try.ntmps31
  go_wp2
  go_loopg [10] n (fun kx s10 wr => ∃ (i : Nat), s10 = .int .i64 (i : Int) ∧ i ≤ n ∧ n - i ≤ kx ∧ Aside (SW encU w0 blk off (swapTo d a b i) wr))
  case atStart => exact ⟨0, rfl, Nat.zero_le _, by omega, S0⟩
  case round =>
    clear S0
    obtain ⟨i, rfl, hi, hkx, S1⟩ := hrel
    have hq : (swapTo d a b i).size = d.size := swapTo_size d a b i
    by_cases hlt : i < n
    · have hltz : (i : Int) < (n : Int) := by omega
      obtain ⟨D, hD⟩ : ∃ D, D = swapTo d a b i := ⟨_, rfl⟩
      rw [← hD] at S1 hq
      have HD : Aside (D = swapTo d a b i) := hD
      clear hD
      go_wp2_with fail
      obtain ⟨iN1, hiN1⟩ : ∃ q, q = a + i := ⟨_, rfl⟩
      obtain ⟨jN1, hjN1⟩ : ∃ q, q = b + i := ⟨_, rfl⟩
      have ea1 : ((a : Int) + (i : Int)).toNat = iN1 := by omega
      have pa1 : (0 : Int) ≤ (a : Int) + (i : Int) := by omega
      have ba1 : (a : Int) + (i : Int) < (d.size : Int) := by omega
      have ra1 : IntKind.i64.wrap ((a : Int) + (i : Int)) = (a : Int) + (i : Int) := by rw [IntKind.wrap_i64]; omega
      have ec1 : ((b : Int) + (i : Int)).toNat = jN1 := by omega
      have pc1 : (0 : Int) ≤ (b : Int) + (i : Int) := by omega
      have bc1 : (b : Int) + (i : Int) < (d.size : Int) := by omega
      have rc1 : IntKind.i64.wrap ((b : Int) + (i : Int)) = (b : Int) + (i : Int) := by rw [IntKind.wrap_i64]; omega
      obtain ⟨x1, hx1⟩ : ∃ x, x = (D)[a + i]! := ⟨_, rfl⟩
      obtain ⟨y1, hy1⟩ : ∃ x, x = (D)[b + i]! := ⟨_, rfl⟩
      have S2 : Aside (SW encU w0 blk off (swp (D) (a + i) (b + i)) ((wr.setCell ⟨blk, off + iN1, none⟩ (encU y1)).setCell ⟨blk, off + jN1, none⟩ (encU x1)).drew) := by rw [hiN1, hjN1, hx1, hy1]; exact S1.out.swapped R (a + i) (b + i) (by omega) (by omega)
      have c1a := S1.out.c1 R (by omega) (a + i) (by omega)
      have c1b := S1.out.c1 R (by omega) (b + i) (by omega)
      have f1a := S1.out.f1 R (by omega) (a + i) (by omega)
      have f1b := S1.out.f1 R (by omega) (b + i) (by omega)
      obtain ⟨u1, c1c⟩ := S1.out.c2 R (by omega) (a + i) (b + i) (by omega) (by omega) (encU y1)
      rw [← hjN1, ← hiN1] at c1c
      rw [← hx1, ← hiN1] at c1a
      rw [← hy1, ← hjN1] at c1b
      rw [← hiN1] at f1a
      rw [← hjN1] at f1b
      clear S1 hx1 hy1 hiN1 hjN1
      simp only [encU] at *
      go_wp2_with fail
      go_big_region_o
      clear c1a c1b c1c f1a f1b
      generalize ((wr.setCell ⟨blk, off + iN1, none⟩ (Value.int .u64 (y1 : Int))).setCell ⟨blk, off + jN1, none⟩ (Value.int .u64 (x1 : Int))).drew = w2 at S2 ⊢
      clear ea1 ec1
      go_wp2
      go_roundg (n - (i + 1))
      case measure => omega
      case rel => exact ⟨i + 1, by go_num, hlt, Nat.le_refl _, by rw [swapTo, ← HD.out]; exact S2⟩
    · have hnot : ¬ (i : Int) < (n : Int) := by omega
      obtain rfl : i = n := by omega
      go_wp2
      go_end0
      exact ⟨rfl, S1.out⟩

set_option maxRecDepth 1000000 in
set_option maxHeartbeats 4000000 in
theorem rotate_any (g : Nat) (cb : Array Value) (blk off cap a m b : Nat) (d0 d : Array Nat) (w0 w : World)
    (R : Row1 encU w0 blk off d0) (hs : d0.size = d.size) (S : SW encU w0 blk off d w) (hsz : d.size < 4611686018427387904) (h1 : a < m) (h2 : m < b) (h3 : b ≤ d.size) :
    Calls Try.prog 30 #[.slice (some ⟨blk, off, none⟩) d.size cap, .int .i64 (a : Int), .int .i64 (m : Int), .int .i64 (b : Int), .func (.func g) #[] cb] w fun e w' => e = .returned (.tuple #[]) ∧ ∃ d', SW encU w0 blk off d' w' ∧ PermIn a b d d' ∧ ∀ k, d'[k]! = rotv d a m b k := by
  have mixed : Try.prog.follows .mixedOrders = true := by kernel_rfl
  have S0 : Aside (SW encU w0 blk off d w) := S
  clear S
  go_enter Try.func30, Try.ntmps30
  go_wp2
  go_loopg [10, 11] (b - a) (fun kx s10 s11 wr => ∃ (i j : Nat) (dk : Array Nat), s10 = .int .i64 (i : Int) ∧ s11 = .int .i64 (j : Int) ∧ 1 ≤ i ∧ 1 ≤ j ∧ a + i ≤ m ∧ m + j ≤ b ∧ i + j ≤ kx ∧ d0.size = dk.size ∧ dk.size = d.size ∧ Aside (SW encU w0 blk off dk wr) ∧ Aside (PermIn a b d dk) ∧ Aside (∀ k, rotv dk (m - i) m (m + j) k = rotv d a m b k))
  case atStart => exact ⟨m - a, b - m, d, by go_num, by go_num, by omega, by omega, by omega, by omega, by omega, hs, rfl, S0, permIn_refl _ _ _, by rw [show m - (m - a) = a by omega, show m + (b - m) = b by omega]; intro k; rfl⟩
  case round =>
    clear S0
    obtain ⟨i, j, dk, rfl, rfl, hi, hj, hai, hmj, hkx, hz0, hz, S1, P1, G1⟩ := hrel
    have r1 : IntKind.i64.wrap ((m : Int) - (i : Int)) = (m : Int) - (i : Int) := by rw [IntKind.wrap_i64]; omega
    have e1 : ((m - i : Nat) : Int) = (m : Int) - (i : Int) := by omega
    by_cases hij : i = j
    · subst hij
      have hd : ((i : Int) != (i : Int)) = false := by simp
      have C := Lib.hid (swapRange_any g cb blk off cap (m - i) m i d0 dk w0 wr R hz0 S1.out (by omega) (by omega) (by omega))
      rw [e1, hz] at C
      go_wp2_with (go_at_call 31; refine C.out.mono ?_; rintro e w2 ⟨rfl, S2⟩)
      go_end0
      exact ⟨rfl, _, S2, permIn_trans _ _ _ _ _ P1.out (swapTo_perm _ _ _ _ _ _ (by omega) (by omega) (by omega) (by omega) (by omega)), fun k => (rot_same dk m i (by omega) (by omega) k).trans (G1.out k)⟩
    · have hd : ((i : Int) != (j : Int)) = true := by simp; omega
      by_cases hlt : j < i
      · have hltz : decide ((i : Int) > (j : Int)) = true := by simp; omega
        have r2 : IntKind.i64.wrap ((i : Int) - (j : Int)) = (i : Int) - (j : Int) := by rw [IntKind.wrap_i64]; omega
        have C := Lib.hid (swapRange_any g cb blk off cap (m - i) m j d0 dk w0 wr R hz0 S1.out (by omega) (by omega) (by omega))
        rw [e1, hz] at C
        go_wp2_with (go_at_call 31; refine C.out.mono ?_; rintro e w2 ⟨rfl, S2⟩)
        go_roundg (i - j + j)
        case measure => omega
        case rel => exact ⟨i - j, j, _, by go_num, rfl, by omega, hj, by omega, hmj, Nat.le_refl _, by rw [swapTo_size]; exact hz0, by rw [swapTo_size]; exact hz, S2, permIn_trans _ _ _ _ _ P1.out (swapTo_perm _ _ _ _ _ _ (by omega) (by omega) (by omega) (by omega) (by omega)), fun k => (rot_more dk m i j (by omega) (by omega) hlt k).trans (G1.out k)⟩
      · have hltz : decide ((i : Int) > (j : Int)) = false := by simp; omega
        have r2 : IntKind.i64.wrap ((j : Int) - (i : Int)) = (j : Int) - (i : Int) := by rw [IntKind.wrap_i64]; omega
        have r3 : IntKind.i64.wrap ((m : Int) + (j : Int)) = (m : Int) + (j : Int) := by rw [IntKind.wrap_i64]; omega
        have r4 : IntKind.i64.wrap ((m : Int) + (j : Int) - (i : Int)) = (m : Int) + (j : Int) - (i : Int) := by rw [IntKind.wrap_i64]; omega
        have e2 : ((m + j - i : Nat) : Int) = (m : Int) + (j : Int) - (i : Int) := by omega
        have C := Lib.hid (swapRange_any g cb blk off cap (m - i) (m + j - i) i d0 dk w0 wr R hz0 S1.out (by omega) (by omega) (by omega))
        rw [e1, e2, hz] at C
        go_wp2_with (go_at_call 31; refine C.out.mono ?_; rintro e w2 ⟨rfl, S2⟩)
        go_roundg (i + (j - i))
        case measure => omega
        case rel => exact ⟨i, j - i, _, rfl, by go_num, hi, by omega, hai, by omega, Nat.le_refl _, by rw [swapTo_size]; exact hz0, by rw [swapTo_size]; exact hz, S2, permIn_trans _ _ _ _ _ P1.out (swapTo_perm _ _ _ _ _ _ (by omega) (by omega) (by omega) (by omega) (by omega)), fun k => (rot_less dk m i j (by omega) (by omega) (by omega) k).trans (G1.out k)⟩

end Go.Proofs.Ytlgpgdliakiomaa
