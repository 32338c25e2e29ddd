/- Slices of words; what the document's number, constants and Start answer. -/
import Derived.Test.YtpcdbpijgmninaaDoorGu
import Derived.Test.YtpcdbpijgmninaaDoorMWs
namespace Go.Proofs.YtpcdbpijgmninaaDoor
set_option maxRecDepth 100000
open Go.RowKit

theorem byte_step (x : UInt32) (hx : x.toNat < 16777216) (c : UInt8) : (x <<< 8 ||| c.toUInt32).toNat = x.toNat * 256 + c.toNat := by
  have hc := c.toNat_lt
  have e : (x <<< 8).toNat = x.toNat <<< 8 := by
    simp only [UInt32.toNat_shiftLeft, UInt32.reduceToNat, Nat.reduceMod]
    rw [Nat.mod_eq_of_lt]
    rw [Nat.shiftLeft_eq]
    omega
  rw [UInt32.toNat_or, e, UInt8.toNat_toUInt32, ← Nat.shiftLeft_add_eq_or_of_lt (by omega), Nat.shiftLeft_eq]
theorem num_word (a b c d : UInt8) : a.toUInt32 * 16777216 + b.toUInt32 * 65536 + c.toUInt32 * 256 + d.toUInt32 = word4 [a, b, c, d] := by
  have ha := a.toNat_lt
  have hb := b.toNat_lt
  have hc := c.toNat_lt
  have hd := d.toNat_lt
  apply UInt32.toNat_inj.1
  have s0 := byte_step 0 (by decide) a
  have s1 := byte_step ((0 : UInt32) <<< 8 ||| a.toUInt32) (by rw [s0]; simp; omega) b
  have s2 := byte_step (((0 : UInt32) <<< 8 ||| a.toUInt32) <<< 8 ||| b.toUInt32) (by rw [s1, s0]; simp; omega) c
  have s3 := byte_step ((((0 : UInt32) <<< 8 ||| a.toUInt32) <<< 8 ||| b.toUInt32) <<< 8 ||| c.toUInt32) (by rw [s2, s1, s0]; simp; omega) d
  have e : word4 [a, b, c, d] = ((((0 : UInt32) <<< 8 ||| a.toUInt32) <<< 8 ||| b.toUInt32) <<< 8 ||| c.toUInt32) <<< 8 ||| d.toUInt32 := rfl
  rw [e, s3, s2, s1, s0]
  simp
  omega

set_option maxRecDepth 100000 in
set_option maxHeartbeats 1000000 in
theorem number_any (b off cap : Nat) (c0 c1 c2 c3 : UInt8) (w : World) (k0 : w.cell? ⟨b, off, none⟩ = some (.int .u8 (c0.toNat : Int))) (k1 : w.cell? ⟨b, off + 1, none⟩ = some (.int .u8 (c1.toNat : Int)))
    (k2 : w.cell? ⟨b, off + 2, none⟩ = some (.int .u8 (c2.toNat : Int))) (k3 : w.cell? ⟨b, off + 3, none⟩ = some (.int .u8 (c3.toNat : Int))) :
    Calls Tryd.prog 94 #[.slice (some ⟨b, off, none⟩) 4 cap] w fun e w' => e = .returned (wd (word4 [c0, c1, c2, c3])) ∧ w'.heap = w.heap ∧ Below w.heap.size w w' := by
  obtain ⟨r1, -, -, -, -⟩ := rules_w
  have m24 := run_mul 16777216 (by decide) 16777216 rfl
  have m16 := run_mul 65536 (by decide) 65536 rfl
  have m8 := run_mul 256 (by decide) 256 rfl
  have HW := Lib.hid (num_word c0 c1 c2 c3)
  have bw : ∀ c : UInt8, Value.int .u32 (IntKind.u32.wrap (c.toNat : Int)) = wd c.toUInt32 := fun c => by
    have := c.toNat_lt
    rw [IntWalk.u32_in _ (by omega)]
    exact byte_wd c
  have K0 := Lib.hid k0
  have K1 := Lib.hid k1
  have K2 := Lib.hid k2
  have K3 := Lib.hid k3
  clear k0 k1 k2 k3
  go_enter Tryd.func94, Tryd.ntmps94
  go_wp2_with fail
  refine still_all (by kernel_rfl) (by kernel_rfl) fun w1 h1 b1 => ?_
  have k0 : w1.cell? ⟨b, off, none⟩ = some (.int .u8 (c0.toNat : Int)) := (World.cell?_of_block (by rw [h1])).trans K0.out
  have k1 : w1.cell? ⟨b, off + 1, none⟩ = some (.int .u8 (c1.toNat : Int)) := (World.cell?_of_block (by rw [h1])).trans K1.out
  have k2 : w1.cell? ⟨b, off + 2, none⟩ = some (.int .u8 (c2.toNat : Int)) := (World.cell?_of_block (by rw [h1])).trans K2.out
  have k3 : w1.cell? ⟨b, off + 3, none⟩ = some (.int .u8 (c3.toNat : Int)) := (World.cell?_of_block (by rw [h1])).trans K3.out
  repeat still_step
  refine wpStill_nil ?_
  have H1 := Lib.hid h1
  have B1 := Lib.hid b1
  clear h1 b1 k0 k1 k2 k3
  go_wp2
  go_ret
  exact ⟨congrArg (fun z => Ending.returned (wd z)) HW.out, H1.out, B1.out⟩

set_option maxRecDepth 100000 in
theorem refStart_any (w : World) : Calls Tryd.prog 84 #[] w fun e w' => ∃ v, e = .returned v ∧ WordsAt w' v start ∧ Below w.heap.size w w' := by
  go_enter Tryd.func84, Tryd.ntmps84
  go_wp2
  go_ret
  exact ⟨_, rfl, WordsAt.whole (Whole.new w 115 (wv start)), (Below.refl _ _).alloc (Nat.le_refl _) _⟩
set_option maxRecDepth 100000 in
theorem refConst_any (w : World) : Calls Tryd.prog 96 #[] w fun e w' => ∃ v, e = .returned v ∧ WordsAt w' v kt ∧ Below w.heap.size w w' := by
  go_enter Tryd.func96, Tryd.ntmps96
  go_wp2
  go_ret
  exact ⟨_, rfl, WordsAt.whole (Whole.new w 115 (wv kt)), (Below.refl _ _).alloc (Nat.le_refl _) _⟩
end Go.Proofs.YtpcdbpijgmninaaDoor
