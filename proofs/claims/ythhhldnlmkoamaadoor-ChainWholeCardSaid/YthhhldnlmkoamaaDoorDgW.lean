/- Words turned round to the right: package digest's and the document's. -/
import Derived.Test.YthhhldnlmkoamaaDoorWd
namespace Go.Proofs.YthhhldnlmkoamaaDoor
open Go.RowKit

/-- A word turned round to the right. -/
def rotr (x : UInt32) (k : Nat) : UInt32 := (x >>> UInt32.ofNat k) ||| (x <<< UInt32.ofNat (32 - k))

theorem right_2 (x : UInt32) (w : World) : Calls Tryd.prog 41 #[wd x, .int .i64 2] w fun e w' => e = .returned (wd (rotr x 2)) ∧ w = w' := by
  obtain ⟨-, -, -, r4, -⟩ := rules_w
  have s1 := run_shl 30 (by decide) 30 rfl
  have s2 := run_shr 2 (by decide) 2 rfl
  have hb : bits .and .u64 (IntKind.u64.wrap (-2)) 31 = 30 := by decide
  go_enter Tryd.func41, Tryd.ntmps41
  go_wp2
  go_ret
  exact ⟨congrArg (fun z => Ending.returned (wd z)) (UInt32.or_comm _ _), rfl⟩
theorem right_6 (x : UInt32) (w : World) : Calls Tryd.prog 41 #[wd x, .int .i64 6] w fun e w' => e = .returned (wd (rotr x 6)) ∧ w = w' := by
  obtain ⟨-, -, -, r4, -⟩ := rules_w
  have s1 := run_shl 26 (by decide) 26 rfl
  have s2 := run_shr 6 (by decide) 6 rfl
  have hb : bits .and .u64 (IntKind.u64.wrap (-6)) 31 = 26 := by decide
  go_enter Tryd.func41, Tryd.ntmps41
  go_wp2
  go_ret
  exact ⟨congrArg (fun z => Ending.returned (wd z)) (UInt32.or_comm _ _), rfl⟩
theorem right_7 (x : UInt32) (w : World) : Calls Tryd.prog 41 #[wd x, .int .i64 7] w fun e w' => e = .returned (wd (rotr x 7)) ∧ w = w' := by
  obtain ⟨-, -, -, r4, -⟩ := rules_w
  have s1 := run_shl 25 (by decide) 25 rfl
  have s2 := run_shr 7 (by decide) 7 rfl
  have hb : bits .and .u64 (IntKind.u64.wrap (-7)) 31 = 25 := by decide
  go_enter Tryd.func41, Tryd.ntmps41
  go_wp2
  go_ret
  exact ⟨congrArg (fun z => Ending.returned (wd z)) (UInt32.or_comm _ _), rfl⟩
theorem right_11 (x : UInt32) (w : World) : Calls Tryd.prog 41 #[wd x, .int .i64 11] w fun e w' => e = .returned (wd (rotr x 11)) ∧ w = w' := by
  obtain ⟨-, -, -, r4, -⟩ := rules_w
  have s1 := run_shl 21 (by decide) 21 rfl
  have s2 := run_shr 11 (by decide) 11 rfl
  have hb : bits .and .u64 (IntKind.u64.wrap (-11)) 31 = 21 := by decide
  go_enter Tryd.func41, Tryd.ntmps41
  go_wp2
  go_ret
  exact ⟨congrArg (fun z => Ending.returned (wd z)) (UInt32.or_comm _ _), rfl⟩
theorem right_13 (x : UInt32) (w : World) : Calls Tryd.prog 41 #[wd x, .int .i64 13] w fun e w' => e = .returned (wd (rotr x 13)) ∧ w = w' := by
  obtain ⟨-, -, -, r4, -⟩ := rules_w
  have s1 := run_shl 19 (by decide) 19 rfl
  have s2 := run_shr 13 (by decide) 13 rfl
  have hb : bits .and .u64 (IntKind.u64.wrap (-13)) 31 = 19 := by decide
  go_enter Tryd.func41, Tryd.ntmps41
  go_wp2
  go_ret
  exact ⟨congrArg (fun z => Ending.returned (wd z)) (UInt32.or_comm _ _), rfl⟩
theorem right_17 (x : UInt32) (w : World) : Calls Tryd.prog 41 #[wd x, .int .i64 17] w fun e w' => e = .returned (wd (rotr x 17)) ∧ w = w' := by
  obtain ⟨-, -, -, r4, -⟩ := rules_w
  have s1 := run_shl 15 (by decide) 15 rfl
  have s2 := run_shr 17 (by decide) 17 rfl
  have hb : bits .and .u64 (IntKind.u64.wrap (-17)) 31 = 15 := by decide
  go_enter Tryd.func41, Tryd.ntmps41
  go_wp2
  go_ret
  exact ⟨congrArg (fun z => Ending.returned (wd z)) (UInt32.or_comm _ _), rfl⟩
theorem right_18 (x : UInt32) (w : World) : Calls Tryd.prog 41 #[wd x, .int .i64 18] w fun e w' => e = .returned (wd (rotr x 18)) ∧ w = w' := by
  obtain ⟨-, -, -, r4, -⟩ := rules_w
  have s1 := run_shl 14 (by decide) 14 rfl
  have s2 := run_shr 18 (by decide) 18 rfl
  have hb : bits .and .u64 (IntKind.u64.wrap (-18)) 31 = 14 := by decide
  go_enter Tryd.func41, Tryd.ntmps41
  go_wp2
  go_ret
  exact ⟨congrArg (fun z => Ending.returned (wd z)) (UInt32.or_comm _ _), rfl⟩
theorem right_19 (x : UInt32) (w : World) : Calls Tryd.prog 41 #[wd x, .int .i64 19] w fun e w' => e = .returned (wd (rotr x 19)) ∧ w = w' := by
  obtain ⟨-, -, -, r4, -⟩ := rules_w
  have s1 := run_shl 13 (by decide) 13 rfl
  have s2 := run_shr 19 (by decide) 19 rfl
  have hb : bits .and .u64 (IntKind.u64.wrap (-19)) 31 = 13 := by decide
  go_enter Tryd.func41, Tryd.ntmps41
  go_wp2
  go_ret
  exact ⟨congrArg (fun z => Ending.returned (wd z)) (UInt32.or_comm _ _), rfl⟩
theorem right_22 (x : UInt32) (w : World) : Calls Tryd.prog 41 #[wd x, .int .i64 22] w fun e w' => e = .returned (wd (rotr x 22)) ∧ w = w' := by
  obtain ⟨-, -, -, r4, -⟩ := rules_w
  have s1 := run_shl 10 (by decide) 10 rfl
  have s2 := run_shr 22 (by decide) 22 rfl
  have hb : bits .and .u64 (IntKind.u64.wrap (-22)) 31 = 10 := by decide
  go_enter Tryd.func41, Tryd.ntmps41
  go_wp2
  go_ret
  exact ⟨congrArg (fun z => Ending.returned (wd z)) (UInt32.or_comm _ _), rfl⟩
theorem right_25 (x : UInt32) (w : World) : Calls Tryd.prog 41 #[wd x, .int .i64 25] w fun e w' => e = .returned (wd (rotr x 25)) ∧ w = w' := by
  obtain ⟨-, -, -, r4, -⟩ := rules_w
  have s1 := run_shl 7 (by decide) 7 rfl
  have s2 := run_shr 25 (by decide) 25 rfl
  have hb : bits .and .u64 (IntKind.u64.wrap (-25)) 31 = 7 := by decide
  go_enter Tryd.func41, Tryd.ntmps41
  go_wp2
  go_ret
  exact ⟨congrArg (fun z => Ending.returned (wd z)) (UInt32.or_comm _ _), rfl⟩
theorem refRight_2 (x : UInt32) (w : World) : Calls Tryd.prog 33 #[wd x, .int .u64 2] w fun e w' => e = .returned (wd (rotr x 2)) ∧ w = w' := by
  obtain ⟨-, -, -, r4, -⟩ := rules_w
  have s1 := run_shl 30 (by decide) 30 rfl
  have s2 := run_shr 2 (by decide) 2 rfl
  go_enter Tryd.func33, Tryd.ntmps33
  go_wp2
  go_ret
  exact ⟨rfl, rfl⟩
theorem refRight_6 (x : UInt32) (w : World) : Calls Tryd.prog 33 #[wd x, .int .u64 6] w fun e w' => e = .returned (wd (rotr x 6)) ∧ w = w' := by
  obtain ⟨-, -, -, r4, -⟩ := rules_w
  have s1 := run_shl 26 (by decide) 26 rfl
  have s2 := run_shr 6 (by decide) 6 rfl
  go_enter Tryd.func33, Tryd.ntmps33
  go_wp2
  go_ret
  exact ⟨rfl, rfl⟩
theorem refRight_7 (x : UInt32) (w : World) : Calls Tryd.prog 33 #[wd x, .int .u64 7] w fun e w' => e = .returned (wd (rotr x 7)) ∧ w = w' := by
  obtain ⟨-, -, -, r4, -⟩ := rules_w
  have s1 := run_shl 25 (by decide) 25 rfl
  have s2 := run_shr 7 (by decide) 7 rfl
  go_enter Tryd.func33, Tryd.ntmps33
  go_wp2
  go_ret
  exact ⟨rfl, rfl⟩
theorem refRight_11 (x : UInt32) (w : World) : Calls Tryd.prog 33 #[wd x, .int .u64 11] w fun e w' => e = .returned (wd (rotr x 11)) ∧ w = w' := by
  obtain ⟨-, -, -, r4, -⟩ := rules_w
  have s1 := run_shl 21 (by decide) 21 rfl
  have s2 := run_shr 11 (by decide) 11 rfl
  go_enter Tryd.func33, Tryd.ntmps33
  go_wp2
  go_ret
  exact ⟨rfl, rfl⟩
theorem refRight_13 (x : UInt32) (w : World) : Calls Tryd.prog 33 #[wd x, .int .u64 13] w fun e w' => e = .returned (wd (rotr x 13)) ∧ w = w' := by
  obtain ⟨-, -, -, r4, -⟩ := rules_w
  have s1 := run_shl 19 (by decide) 19 rfl
  have s2 := run_shr 13 (by decide) 13 rfl
  go_enter Tryd.func33, Tryd.ntmps33
  go_wp2
  go_ret
  exact ⟨rfl, rfl⟩
theorem refRight_17 (x : UInt32) (w : World) : Calls Tryd.prog 33 #[wd x, .int .u64 17] w fun e w' => e = .returned (wd (rotr x 17)) ∧ w = w' := by
  obtain ⟨-, -, -, r4, -⟩ := rules_w
  have s1 := run_shl 15 (by decide) 15 rfl
  have s2 := run_shr 17 (by decide) 17 rfl
  go_enter Tryd.func33, Tryd.ntmps33
  go_wp2
  go_ret
  exact ⟨rfl, rfl⟩
theorem refRight_18 (x : UInt32) (w : World) : Calls Tryd.prog 33 #[wd x, .int .u64 18] w fun e w' => e = .returned (wd (rotr x 18)) ∧ w = w' := by
  obtain ⟨-, -, -, r4, -⟩ := rules_w
  have s1 := run_shl 14 (by decide) 14 rfl
  have s2 := run_shr 18 (by decide) 18 rfl
  go_enter Tryd.func33, Tryd.ntmps33
  go_wp2
  go_ret
  exact ⟨rfl, rfl⟩
theorem refRight_19 (x : UInt32) (w : World) : Calls Tryd.prog 33 #[wd x, .int .u64 19] w fun e w' => e = .returned (wd (rotr x 19)) ∧ w = w' := by
  obtain ⟨-, -, -, r4, -⟩ := rules_w
  have s1 := run_shl 13 (by decide) 13 rfl
  have s2 := run_shr 19 (by decide) 19 rfl
  go_enter Tryd.func33, Tryd.ntmps33
  go_wp2
  go_ret
  exact ⟨rfl, rfl⟩
theorem refRight_22 (x : UInt32) (w : World) : Calls Tryd.prog 33 #[wd x, .int .u64 22] w fun e w' => e = .returned (wd (rotr x 22)) ∧ w = w' := by
  obtain ⟨-, -, -, r4, -⟩ := rules_w
  have s1 := run_shl 10 (by decide) 10 rfl
  have s2 := run_shr 22 (by decide) 22 rfl
  go_enter Tryd.func33, Tryd.ntmps33
  go_wp2
  go_ret
  exact ⟨rfl, rfl⟩
theorem refRight_25 (x : UInt32) (w : World) : Calls Tryd.prog 33 #[wd x, .int .u64 25] w fun e w' => e = .returned (wd (rotr x 25)) ∧ w = w' := by
  obtain ⟨-, -, -, r4, -⟩ := rules_w
  have s1 := run_shl 7 (by decide) 7 rfl
  have s2 := run_shr 25 (by decide) 25 rfl
  go_enter Tryd.func33, Tryd.ntmps33
  go_wp2
  go_ret
  exact ⟨rfl, rfl⟩
end Go.Proofs.YthhhldnlmkoamaaDoor
