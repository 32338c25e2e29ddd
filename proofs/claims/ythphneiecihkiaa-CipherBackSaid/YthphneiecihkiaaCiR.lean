/- What the document's left, Quarter and word of layer 6 answer. -/
import Derived.Test.YthphneiecihkiaaCiM
import Derived.Test.YthphneiecihkiaaGenS
import Derived.Test.YthphneiecihkiaaGenT
namespace Go.Proofs.Ythphneiecihkiaa
open Go.RowKit

theorem refLeft_16 (x : UInt32) (w : World) : Calls Try.prog 15 #[wd x, .int .u64 16] w fun e w' => e = .returned (wd (rotl x 16)) ∧ w = w' := by
  obtain ⟨-, -, -, r4, -⟩ := rules_w
  have s1 := run_shl 16 (by decide) 16 rfl
  have s2 := run_shr 16 (by decide) 16 rfl
  go_enter Try.func15, Try.ntmps15
  go_wp2
  go_ret
  exact ⟨rfl, rfl⟩
theorem refLeft_12 (x : UInt32) (w : World) : Calls Try.prog 15 #[wd x, .int .u64 12] w fun e w' => e = .returned (wd (rotl x 12)) ∧ w = w' := by
  obtain ⟨-, -, -, r4, -⟩ := rules_w
  have s1 := run_shl 12 (by decide) 12 rfl
  have s2 := run_shr 20 (by decide) 20 rfl
  go_enter Try.func15, Try.ntmps15
  go_wp2
  go_ret
  exact ⟨rfl, rfl⟩
theorem refLeft_8 (x : UInt32) (w : World) : Calls Try.prog 15 #[wd x, .int .u64 8] w fun e w' => e = .returned (wd (rotl x 8)) ∧ w = w' := by
  obtain ⟨-, -, -, r4, -⟩ := rules_w
  have s1 := run_shl 8 (by decide) 8 rfl
  have s2 := run_shr 24 (by decide) 24 rfl
  go_enter Try.func15, Try.ntmps15
  go_wp2
  go_ret
  exact ⟨rfl, rfl⟩
theorem refLeft_7 (x : UInt32) (w : World) : Calls Try.prog 15 #[wd x, .int .u64 7] w fun e w' => e = .returned (wd (rotl x 7)) ∧ w = w' := by
  obtain ⟨-, -, -, r4, -⟩ := rules_w
  have s1 := run_shl 7 (by decide) 7 rfl
  have s2 := run_shr 25 (by decide) 25 rfl
  go_enter Try.func15, Try.ntmps15
  go_wp2
  go_ret
  exact ⟨rfl, rfl⟩

/-- The four words behind so many steps. -/
def qSt (a b c d : UInt32) : Nat → UInt32 × UInt32 × UInt32 × UInt32
  | 0 => (a, b, c, d)
  | 1 => (a + b, b, c, rotl (d ^^^ (a + b)) 16)
  | 2 => qHalf 16 12 (a, b, c, d)
  | 3 => match qHalf 16 12 (a, b, c, d) with | (a, b, c, d) => (a + b, b, c, rotl (d ^^^ (a + b)) 8)
  | _ => quarter a b c d

set_option maxHeartbeats 1000000 in
theorem refQuarter_any (a b c d : UInt32) (w : World) :
    Calls Try.prog 8 #[wd a, wd b, wd c, wd d] w fun e w' => e = .returned (.tuple #[wd (quarter a b c d).1, wd (quarter a b c d).2.1, wd (quarter a b c d).2.2.1, wd (quarter a b c d).2.2.2]) ∧ Below w.heap.size w w' := by
  obtain ⟨r1, r2, -, -, -⟩ := rules_w
  go_enter Try.func8, Try.ntmps8
  go_wp2_with fail
  have b1 : Below w.heap.size w (w.alloc (.cells #[.int .u64 16, .int .u64 12, .int .u64 8, .int .u64 7] 42)) := (Below.refl _ _).alloc (Nat.le_refl _) _
  have y1 := Whole.new w 42 #[.int .u64 16, .int .u64 12, .int .u64 8, .int .u64 7]
  have c0 := y1.at_ 0
  have c1 := y1.at_ 1
  have c2 := y1.at_ 2
  have c3 := y1.at_ 3
  simp only [List.getElem?_toArray, List.getElem?_cons_zero, List.getElem?_cons_succ] at c0 c1 c2 c3
  generalize w.alloc (.cells #[.int .u64 16, .int .u64 12, .int .u64 8, .int .u64 7] 42) = w1 at *
  have B1 := Lib.hid b1
  clear b1 y1
  go_loop [0, 1, 2, 3, 13] (fun ua ub uc ud i => ∃ k : Nat, k ≤ 4 ∧ i = .int .i64 (k : Int) ∧ ua = wd (qSt a b c d k).1 ∧ ub = wd (qSt a b c d k).2.1 ∧ uc = wd (qSt a b c d k).2.2.1 ∧ ud = wd (qSt a b c d k).2.2.2) (fun _ _ _ _ i => 4 - (intOf i).toNat)
  case atStart => exact ⟨0, by decide, rfl, rfl, rfl, rfl, rfl⟩
  case round =>
    obtain ⟨k, hk, rfl, rfl, rfl, rfl, rfl⟩ := hrel
    match k, hk with
    | 0, _ =>
      go_wp2_with fail
      refine (refLeft_16 _ w1).mono ?_
      rintro e w2 ⟨rfl, rfl⟩
      go_wp2_with fail
      exact ⟨⟨1, by decide, rfl, rfl, rfl, rfl, rfl⟩, by simp [intOf]⟩
    | 1, _ =>
      go_wp2_with fail
      refine (refLeft_12 _ w1).mono ?_
      rintro e w2 ⟨rfl, rfl⟩
      go_wp2_with fail
      exact ⟨⟨2, by decide, rfl, rfl, rfl, rfl, rfl⟩, by simp [intOf]⟩
    | 2, _ =>
      go_wp2_with fail
      refine (refLeft_8 _ w1).mono ?_
      rintro e w2 ⟨rfl, rfl⟩
      go_wp2_with fail
      exact ⟨⟨3, by decide, rfl, rfl, rfl, rfl, rfl⟩, by simp [intOf]⟩
    | 3, _ =>
      go_wp2_with fail
      refine (refLeft_7 _ w1).mono ?_
      rintro e w2 ⟨rfl, rfl⟩
      go_wp2_with fail
      exact ⟨⟨4, by decide, rfl, rfl, rfl, rfl, rfl⟩, by simp [intOf]⟩
    | 4, _ =>
      go_wp2_with fail
      refine bodyPost_ret (results_tmp4 rfl _ _ _) rfl ?_
      exact ⟨rfl, B1.out⟩
    | k + 5, h => exact absurd h (by omega)

theorem or_step (x y : UInt32) (i : Nat) (hi : i < 32) (hx : x.toNat < 2 ^ i) (hy : y.toNat * 2 ^ i < 4294967296) : (x ||| y <<< UInt32.ofNat i).toNat = x.toNat + y.toNat * 2 ^ i := by
  have e : (y <<< UInt32.ofNat i).toNat = y.toNat <<< i := by
    have hm : i % 4294967296 % 32 = i := by omega
    simp only [UInt32.toNat_shiftLeft, UInt32.toNat_ofNat', hm]
    rw [Nat.mod_eq_of_lt (by rw [Nat.shiftLeft_eq]; exact hy)]
  rw [UInt32.toNat_or, e, Nat.or_comm, ← Nat.shiftLeft_add_eq_or_of_lt hx, Nat.shiftLeft_eq, Nat.add_comm]
theorem lword_nat (a b c d : UInt8) : (lword [a, b, c, d]).toNat = a.toNat + b.toNat * 256 + c.toNat * 65536 + d.toNat * 16777216 := by
  have ha := a.toNat_lt
  have hb := b.toNat_lt
  have hc := c.toNat_lt
  have hd := d.toNat_lt
  have s1 := or_step a.toUInt32 b.toUInt32 8 (by decide) (by simp; omega) (by simp; omega)
  have s2 := or_step (a.toUInt32 ||| b.toUInt32 <<< UInt32.ofNat 8) c.toUInt32 16 (by decide) (by rw [s1]; simp; omega) (by simp; omega)
  have s3 := or_step (a.toUInt32 ||| b.toUInt32 <<< UInt32.ofNat 8 ||| c.toUInt32 <<< UInt32.ofNat 16) d.toUInt32 24 (by decide) (by rw [s2, s1]; simp; omega) (by simp; omega)
  have e : lword [a, b, c, d] = a.toUInt32 ||| b.toUInt32 <<< UInt32.ofNat 8 ||| c.toUInt32 <<< UInt32.ofNat 16 ||| d.toUInt32 <<< UInt32.ofNat 24 := rfl
  rw [e, s3, s2, s1]
  simp
theorem lword_sum (a b c d : UInt8) : d.toUInt32 * 16777216 + c.toUInt32 * 65536 + b.toUInt32 * 256 + a.toUInt32 = lword [a, b, c, d] := by
  have ha := a.toNat_lt
  have hb := b.toNat_lt
  have hc := c.toNat_lt
  have hd := d.toNat_lt
  apply UInt32.toNat_inj.1
  rw [lword_nat]
  simp
  omega

set_option maxHeartbeats 1000000 in
theorem refWord_any (b off cap : Nat) (c0 c1 c2 c3 : UInt8) (w : World) (k0 : w.cell? ⟨b, off, none⟩ = some (.int .u8 (c0.toNat : Int))) (k1 : w.cell? ⟨b, off + 1, none⟩ = some (.int .u8 (c1.toNat : Int)))
    (k2 : w.cell? ⟨b, off + 2, none⟩ = some (.int .u8 (c2.toNat : Int))) (k3 : w.cell? ⟨b, off + 3, none⟩ = some (.int .u8 (c3.toNat : Int))) :
    Calls Try.prog 19 #[.slice (some ⟨b, off, none⟩) 4 cap] w fun e w' => e = .returned (wd (lword [c0, c1, c2, c3])) ∧ w'.heap = w.heap ∧ Below w.heap.size w w' := by
  obtain ⟨r1, -, -, -, -⟩ := rules_w
  have m24 := run_mul 16777216 (by decide) 16777216 rfl
  have m16 := run_mul 65536 (by decide) 65536 rfl
  have m8 := run_mul 256 (by decide) 256 rfl
  have HW := Lib.hid (lword_sum c0 c1 c2 c3)
  have bw : ∀ c : UInt8, Value.int .u32 (IntKind.u32.wrap (c.toNat : Int)) = wd c.toUInt32 := fun c => by
    have := c.toNat_lt
    rw [IntWalk.u32_in _ (by omega)]
    exact byte_wd c
  have K0 := Lib.hid k0
  have K1 := Lib.hid k1
  have K2 := Lib.hid k2
  have K3 := Lib.hid k3
  clear k0 k1 k2 k3
  go_enter Try.func19, Try.ntmps19
  go_wp2_with fail
  refine still_all (by kernel_rfl) (by kernel_rfl) fun w1 h1 b1 => ?_
  have k0 : w1.cell? ⟨b, off, none⟩ = some (.int .u8 (c0.toNat : Int)) := (World.cell?_of_block (by rw [h1])).trans K0.out
  have k1 : w1.cell? ⟨b, off + 1, none⟩ = some (.int .u8 (c1.toNat : Int)) := (World.cell?_of_block (by rw [h1])).trans K1.out
  have k2 : w1.cell? ⟨b, off + 2, none⟩ = some (.int .u8 (c2.toNat : Int)) := (World.cell?_of_block (by rw [h1])).trans K2.out
  have k3 : w1.cell? ⟨b, off + 3, none⟩ = some (.int .u8 (c3.toNat : Int)) := (World.cell?_of_block (by rw [h1])).trans K3.out
  repeat still_step
  refine wpStill_nil ?_
  have H1 := Lib.hid h1
  have B1 := Lib.hid b1
  clear h1 b1 k0 k1 k2 k3
  go_wp2
  go_ret
  exact ⟨congrArg (fun z => Ending.returned (wd z)) HW.out, H1.out, B1.out⟩
end Go.Proofs.Ythphneiecihkiaa
