/- Package label, as landed: Bytes, ReadBytes. -/
import Derived.Test.YtgldelgeaajgpaaDoorLbP
import Derived.Test.YtgldelgeaajgpaaDoorLbR
namespace Go.Proofs.YtgldelgeaajgpaaDoor
open Go.RowKit

theorem made_own_room (w : World) (n cap : Nat) (hn : n ≤ cap) (hc : cap ≤ 10000000) :
    ∃ w', (Instr.makeSlice 26 (.int .i64 (n : Int)) (.int .i64 (cap : Int))).run Tryd.prog w = .ok (.slice (some ⟨w.heap.size, 0, none⟩) n cap) w' ∧
      w'.ownsRow w.heap.size 5 1 (.slice (some ⟨w.heap.size, 0, none⟩) n cap) n (bv (List.replicate n 0)) ∧ Below w.heap.size w w' := by
  obtain ⟨i0, hi0, hz0, hz1, hz2⟩ := info_parts byte_info
  have q := run_make (P := Tryd.prog) w 26 5 i0 (.int .u8 0) Tryd.underlying26 hi0 hz0 .i64 .i64 (n : Int) (cap : Int) (by omega) (by omega) (by rw [hz2]; omega) (by omega)
  simp only [Int.toNat_natCast, hz1, Nat.mul_one] at q
  have e : (madeCells (Value.int .u8 0).cells cap).toList = bv (List.replicate cap 0) := made_bytes cap
  refine ⟨_, q, ⟨by simp [bv_length], .inr ⟨w.heap.size, cap, _, rfl, Nat.le_refl _, heap_alloc_new w _, hn, by simp only [maxLen]; omega, by rw [size_madeCells, Nat.mul_one], ?_⟩⟩, (Below.refl _ _).alloc (Nat.le_refl _) _⟩
  rw [e, Nat.mul_one]
  simp only [bv, ← List.map_take, List.take_replicate, Nat.min_eq_left hn]

set_option maxRecDepth 100000 in
set_option maxHeartbeats 2000000 in
theorem labelBytes_any (A : Option Addr) (n cap : Nat) (b : List UInt8) (hn : n ≤ 100000) (w : World) (h : BytesAt w (.slice A n cap) b) :
    Calls Tryd.prog 19 #[.slice A n cap] w fun e w' => e = .returned (.string ⟨(bytesL b).toArray⟩) ∧ Below w.heap.size w w' := by
  have HZ := Lib.hid h.size
  have H := Lib.hid h
  have HN := Lib.hid hn
  by_cases h0 : n = 0
  · have hb : b = [] := List.eq_nil_of_length_eq_zero (by rw [← HZ.out.1, h0])
    have e : bytesL b = [45] := by rw [bytesL, if_pos hb]
    rw [e]
    have d : ((n : Int) == 0) = true := by simp; omega
    clear h hb e h0
    go_enter Tryd.func19, Tryd.ntmps19
    go_wp2
    go_ret
    exact ⟨rfl, Below.refl _ _⟩
  · have hb : b ≠ [] := fun e => h0 (by rw [HZ.out.1, e]; rfl)
    have e : bytesL b = pairsC b := by rw [bytesL, if_neg hb]
    rw [e]
    have d : ((n : Int) == 0) = false := by simp; omega
    obtain ⟨b1, o1, rfl, hb1, hc1⟩ := H.out.spots hb
    have HB1 := Lib.hid (And.intro hb1 hc1)
    obtain ⟨m, hm⟩ : ∃ m, m = 2 * n := ⟨_, rfl⟩
    have r0 : IntKind.i64.wrap (2 * (n : Int)) = (m : Int) := by rw [IntWalk.i64_in _ (by omega)]; omega
    obtain ⟨w1, hr0, ho, hb'⟩ := made_own_room w 0 m (Nat.zero_le _) (by omega)
    have hr : (Instr.makeSlice 26 (.int .i64 0) (.int .i64 (m : Int))).run Tryd.prog w = .ok (.slice (some ⟨w.heap.size, 0, none⟩) 0 m) w1 := hr0
    have O1 := Lib.hid ho
    have B1 := Lib.hid hb'
    clear h hb e h0 hb1 hc1 hm hn hr0 ho hb'
    go_enter Tryd.func19, Tryd.ntmps19
    go_wp2_with fail
    clear hr r0 d
    go_loopw [3, 15] (fun v i wr => ∃ k : Nat, k ≤ n ∧ i = .int .i64 (k : Int) ∧ wr.ownsRow w.heap.size 5 1 v (2 * k) (bv (pairsC (b.take k))) ∧ Below w.heap.size w wr) (fun _ i _ => n - (intOf i).toNat)
    case atStart => exact ⟨0, Nat.zero_le _, rfl, O1.out, B1.out⟩
    case round =>
      obtain ⟨k, hk, rfl, ho, hb⟩ := hrel
      obtain ⟨Ao, co, rfl⟩ := own_form ho
      have HO := Lib.hid ho
      have HB := Lib.hid hb
      clear ho hb O1 B1
      by_cases hlt : k < n
      · have dk : decide ((k : Int) < (n : Int)) = true := by simp; omega
        obtain ⟨c, hc⟩ : ∃ c, b[k]? = some c := ⟨_, List.getElem?_eq_getElem (by have := HZ.out.1; omega)⟩
        have c1 := (HB.out.cell (p := ⟨b1, o1 + k, none⟩) HB1.out.1).trans (HB1.out.2 k c hc)
        have HP : Hid (bv (pairsC (b.take k)) ++ bv [hexC (c.toNat / 16), hexC (c.toNat % 16)] = bv (pairsC (b.take (k + 1)))) := by
          rw [Hid, ← bv_append, take_at hc, pairsC_snoc]
          rfl
        have hcl := c.toNat_lt
        obtain ⟨dh, hdh⟩ : ∃ d, d = c.toNat / 16 := ⟨_, rfl⟩
        obtain ⟨dl, hdl⟩ : ∃ d, d = c.toNat % 16 := ⟨_, rfl⟩
        rw [← hdh, ← hdl] at HP
        have e1 : ∀ h, (⟨#[48, 49, 50, 51, 52, 53, 54, 55, 56, 57, 97, 98, 99, 100, 101, 102]⟩ : ByteArray)[dh]'h = hexC dh := fun h => lit_hex dh (by omega) h
        have e2 : ∀ h, (⟨#[48, 49, 50, 51, 52, 53, 54, 55, 56, 57, 97, 98, 99, 100, 101, 102]⟩ : ByteArray)[dl]'h = hexC dl := fun h => lit_hex dl (by omega) h
        obtain ⟨xh, hxh⟩ : ∃ x, x = hexC dh := ⟨_, rfl⟩
        obtain ⟨xl, hxl⟩ : ∃ x, x = hexC dl := ⟨_, rfl⟩
        rw [← hxh, ← hxl] at HP
        simp only [← hxh] at e1
        simp only [← hxl] at e2
        have r1 : (c.toNat : Int) / 16 = (dh : Int) := by omega
        have r2 : bits .and .u8 (c.toNat : Int) 15 = (dl : Int) := by
          have h := u8_and_nat c.toNat 15 hcl (by decide)
          have e : c.toNat &&& 15 = c.toNat % 16 := Nat.and_two_pow_sub_one_eq_mod c.toNat 4
          rw [hdl, ← e, ← h]
          rfl
        have j1 : (dh : Int) < 16 := by omega
        have j2 : (dl : Int) < 16 := by omega
        have jk : (k : Int) < (n : Int) := by omega
        have tk : IntKind.i64.wrap ((k : Int) + 1) = (k : Int) + 1 := by have := HN.out; rw [IntWalk.i64_in _ (by omega)]
        clear hc hdh hdl hxh hxl hcl
        go_wp2_with fail
        refine regS_begin (fun w' => Below w.heap.size w w') (by kernel_rfl) HB.out.drew ?_
        have hS : Below w.heap.size w wr.drew := HB.out.drew
        have HO2 : Hid (wr.drew.ownsRow w.heap.size 5 1 (.slice Ao (2 * k) co) (2 * k) (bv (pairsC (b.take k)))) := HO
        obtain ⟨wd, hwd⟩ : ∃ wd, wd = wr.drew := ⟨_, rfl⟩
        rw [← hwd] at hS HO2 ⊢
        clear hwd HB HO c1
        refine regS_take (i := 0) (v := ?_) rfl (by kernel_rfl) (by kernel_rfl) (by kernel_rfl) (fun _ _ _ h => h) (by rfl) hS ?hy0 ?_
        case hy0 => intro w' hw'; go_simp; (try with_reducible rfl)
        simp only [Act.put, List.setIfInBounds_toArray, List.set_cons_zero, List.set_cons_succ]
        refine regS_take (i := 1) (v := ?_) rfl (by kernel_rfl) (by kernel_rfl) (by kernel_rfl) (fun _ _ _ h => h) (by rfl) hS ?hy1 ?_
        case hy1 => intro w' hw'; go_simp; (try with_reducible rfl)
        simp only [Act.put, List.setIfInBounds_toArray, List.set_cons_zero, List.set_cons_succ]
        refine regS_take (i := 2) (v := ?_) rfl (by kernel_rfl) (by kernel_rfl) (by kernel_rfl) (fun _ _ _ h => h) (by rfl) hS ?hy2 ?_
        case hy2 => intro w' hw'; go_simp; (try with_reducible rfl)
        simp only [Act.put, List.setIfInBounds_toArray, List.set_cons_zero, List.set_cons_succ]
        refine regS_take (i := 3) (v := ?_) rfl (by kernel_rfl) (by kernel_rfl) (by kernel_rfl) (fun _ _ _ h => h) (by rfl) hS ?hy3 ?_
        case hy3 => intro w' hw'; go_simp; (try with_reducible rfl)
        simp only [Act.put, List.setIfInBounds_toArray, List.set_cons_zero, List.set_cons_succ]
        refine regS_take (i := 4) (v := ?_) rfl (by kernel_rfl) (by kernel_rfl) (by kernel_rfl) (fun _ _ _ h => h) (by rfl) hS ?hy4 ?_
        case hy4 => intro w' hw'; go_simp; (try with_reducible rfl)
        simp only [Act.put, List.setIfInBounds_toArray, List.set_cons_zero, List.set_cons_succ]
        refine regS_take (i := 5) (v := ?_) rfl (by kernel_rfl) (by kernel_rfl) (by kernel_rfl) (fun _ _ _ h => h) (by rfl) hS ?hy5 ?_
        case hy5 => intro w' hw'; go_simp; (try with_reducible rfl)
        simp only [Act.put, List.setIfInBounds_toArray, List.set_cons_zero, List.set_cons_succ]
        refine regS_take (i := 6) (v := ?_) rfl (by kernel_rfl) (by kernel_rfl) (by kernel_rfl) (fun _ _ _ h => h) (by rfl) hS ?hy6 ?_
        case hy6 => intro w' hw'; go_simp; (try with_reducible rfl)
        simp only [Act.put, List.setIfInBounds_toArray, List.set_cons_zero, List.set_cons_succ]
        refine regS_do (i := 7) rfl (by kernel_rfl) (fun K' hK => ?_)
        go_simp
        have sb : Below w.heap.size w (wd.alloc (.cells #[.int .u8 (xh.toNat : Int), .int .u8 (xl.toNat : Int)] 5)) := hS.alloc hS.size _
        have z3 := BytesAt.lit wd [xh, xl] #[.int .u8 (xh.toNat : Int), .int .u8 (xl.toNat : Int)] rfl
        have O3 := HO2.out.alloc (.cells #[.int .u8 (xh.toNat : Int), .int .u8 (xl.toNat : Int)] 5)
        refine hK.out _ _ sb ?_
        clear hK K' HO2 hS
        generalize wd.alloc (.cells #[.int .u8 (xh.toNat : Int), .int .u8 (xl.toNat : Int)] 5) = w4 at *
        refine regS_do (i := 8) rfl (by kernel_rfl) (fun K' hK => ?_)
        rw [if_pos (by rfl)]
        refine wp_append_bytes _ _ rfl w.heap.size _ _ _ rfl O3 _ _ rfl z3 (by have := HN.out; simp; omega) sb.size ?_
        intro v5 w5 ho5 hg5
        have lt5 := O3.lt
        have B5 : Below w.heap.size w w5 := sb.grown hg5 sb.size (fun k hk => (lt5 k hk).1)
        have O5 : Hid (w5.ownsRow w.heap.size 5 1 v5 (2 * (k + 1)) (bv (pairsC (b.take (k + 1))))) := Lib.hid (by rw [← HP.out]; exact ho5)
        refine hK.out _ _ B5 ?_
        have B5h := Lib.hid B5
        have hS : Below w.heap.size w w5 := B5
        clear hK K' ho5 hg5 lt5 z3 O3 sb B5
        simp only [Act.put, List.setIfInBounds_toArray, List.set_cons_zero, List.set_cons_succ]
        refine regS_take (i := 9) (v := ?_) rfl (by kernel_rfl) (by kernel_rfl) (by kernel_rfl) (fun _ _ _ h => h) (by rfl) hS ?hy9 ?_
        case hy9 => intro w' hw'; go_simp; (try with_reducible rfl)
        simp only [Act.put, List.setIfInBounds_toArray, List.set_cons_zero, List.set_cons_succ]
        refine regS_end (by kernel_rfl) ?_
        clear hS e1 e2 r1 r2
        go_wp2_with fail
        exact ⟨⟨k + 1, by omega, by go_num, O5.out, B5h.out⟩, by simp [intOf]; omega⟩
      · obtain rfl : k = n := by omega
        have e : b.take k = b := List.take_of_length_le (by have := HZ.out.1; omega)
        rw [e] at HO
        have Y : Hid (BytesAt wr (.slice Ao (2 * k) co) (pairsC b)) := Lib.hid (BytesAt.of_own (base := w.heap.size) (by rw [pairsC_length, ← HZ.out.1]; exact HO.out))
        have rc := conv_bytes Y.out
        clear e HO
        go_wp2
        go_ret
        exact ⟨rfl, HB.out⟩
end Go.Proofs.YtgldelgeaajgpaaDoor
