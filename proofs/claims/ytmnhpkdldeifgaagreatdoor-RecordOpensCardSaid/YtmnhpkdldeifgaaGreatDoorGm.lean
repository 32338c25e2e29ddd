/- What the document's Xor of layer 6 answers. -/
import Derived.Test.YtmnhpkdldeifgaaGreatDoorGk
import Derived.Test.YtmnhpkdldeifgaaGreatDoorGl
import Derived.Test.YtmnhpkdldeifgaaGreatDoorGb
import Derived.Deep.LoopGhost
namespace Go.Proofs.YtmnhpkdldeifgaaGreatDoor
set_option maxRecDepth 100000
open Go.RowKit

set_option maxHeartbeats 1000000 in
theorem refXor_bad (A0 A1 : Option Addr) (n0 n1 cap0 cap1 : Nat) (v v3 : Value) (hn : n0 ≠ 32 ∨ n1 ≠ 12) (w : World) :
    Calls Tryz.prog 37 #[.slice A0 n0 cap0, .slice A1 n1 cap1, v, v3] w fun e w' => e = .returned (.tuple #[.slice none 0 0, .int .i64 2]) ∧ Below w.heap.size w w' := by
  by_cases h0 : n0 = 32
  · subst h0
    have d1 : ((n1 : Int) != 12) = true := by simp; omega
    clear hn
    go_enter Tryz.func37, Tryz.ntmps37
    go_wp2
    go_ret2
    exact ⟨rfl, Below.refl _ _⟩
  · have d0 : ((n0 : Int) != 32) = true := by simp; omega
    clear hn
    go_enter Tryz.func37, Tryz.ntmps37
    go_wp2
    go_ret2
    exact ⟨rfl, Below.refl _ _⟩

set_option maxHeartbeats 1000000 in
theorem refXor_big (A0 A1 A3 : Option Addr) (n cap0 cap1 cap3 : Nat) (c : UInt32) (hn : 4294967296 - c.toNat < (n + 63) / 64) (hn1 : n ≤ 1000000) (w : World) :
    Calls Tryz.prog 37 #[.slice A0 32 cap0, .slice A1 12 cap1, .int .u32 (c.toNat : Int), .slice A3 n cap3] w fun e w' => e = .returned (.tuple #[.slice none 0 0, .int .i64 3]) ∧ Below w.heap.size w w' := by
  have hc := c.toNat_lt
  obtain ⟨q, hq⟩ : ∃ q, q = 4294967296 - c.toNat := ⟨_, rfl⟩
  obtain ⟨b, hb⟩ : ∃ b, b = (n + 63) / 64 := ⟨_, rfl⟩
  have w1 : IntKind.i64.wrap (c.toNat : Int) = (c.toNat : Int) := IntWalk.i64_in _ (by omega)
  have w2 : IntKind.i64.wrap (4294967296 - (c.toNat : Int)) = (q : Int) := by rw [IntWalk.i64_in _ (by omega)]; omega
  have w3 : IntKind.i64.wrap ((n : Int) + 63) = ((n + 63 : Nat) : Int) := by rw [IntWalk.i64_in _ (by omega)]; omega
  have w4 : ((n + 63 : Nat) : Int) / 64 = (b : Int) := by rw [hb]; omega
  have w5 : wrap64 (b : Int) = (b : Int) := IntWalk.wrap64_in _ (by omega)
  have d : decide ((q : Int) < (b : Int)) = true := by simp; omega
  have d' : decide (q < b) = true := by simp; omega
  clear hq hb hn
  generalize n + 63 = n63 at *
  go_enter Tryz.func37, Tryz.ntmps37
  go_wp2
  go_ret2
  exact ⟨rfl, Below.refl _ _⟩

set_option maxRecDepth 100000 in
set_option maxHeartbeats 2000000 in
theorem refXor_any (A0 A1 A3 : Option Addr) (n cap0 cap1 cap3 : Nat) (key nonce msg : List UInt8) (c : UInt32) (hn : (n + 63) / 64 ≤ 4294967296 - c.toNat) (hn1 : n ≤ 1000000) (w : World)
    (h0 : BytesAt w (.slice A0 32 cap0) key) (h1 : BytesAt w (.slice A1 12 cap1) nonce) (h3 : BytesAt w (.slice A3 n cap3) msg) :
    Calls Tryz.prog 37 #[.slice A0 32 cap0, .slice A1 12 cap1, wd c, .slice A3 n cap3] w fun e w' => ∃ v', e = .returned (.tuple #[v', .int .i64 0]) ∧ BytesAt w' v' (xorC key nonce c msg) ∧ Below w.heap.size w w' := by
  have hc := c.toNat_lt
  have ML := Lib.hid h3.size.1
  obtain ⟨q, hq⟩ : ∃ q, q = 4294967296 - c.toNat := ⟨_, rfl⟩
  obtain ⟨b, hb⟩ : ∃ b, b = (n + 63) / 64 := ⟨_, rfl⟩
  have w1 : ∀ w0, (convert 57 3 (wd c)).run Tryz.prog w0 = .ok (.int .i64 (c.toNat : Int)) w0 := fun w0 => by
    have : IntKind.i64.wrap (c.toNat : Int) = (c.toNat : Int) := IntWalk.i64_in _ (by omega)
    simp only [wd]
    go_simp
  have w2 : IntKind.i64.wrap (4294967296 - (c.toNat : Int)) = (q : Int) := by rw [IntWalk.i64_in _ (by omega)]; omega
  have w3 : IntKind.i64.wrap ((n : Int) + 63) = ((n + 63 : Nat) : Int) := by rw [IntWalk.i64_in _ (by omega)]; omega
  have w4 : ((n + 63 : Nat) : Int) / 64 = (b : Int) := by rw [hb]; omega
  have w5 : wrap64 (b : Int) = (b : Int) := IntWalk.wrap64_in _ (by omega)
  have d : decide ((q : Int) < (b : Int)) = false := by simp; omega
  have d' : decide (q < b) = false := by simp; omega
  have H0 := Lib.hid h0
  have H1 := Lib.hid h1
  have H3 := Lib.hid h3
  have XL := Lib.hid (xorC_length key nonce c msg)
  clear hq hb hn h0 h1 h3
  generalize n + 63 = n63 at *
  go_enter Tryz.func37, Tryz.ntmps37
  go_wp2_with fail
  clear w1 w2 w3 w4 w5
  go_loopg [11, 12, 13] n (fun g u v i W => ∃ k : Nat, k + g = n ∧ i = .int .i64 (k : Int) ∧ W.ownsRow w.heap.size 5 1 u k (bv ((xorC key nonce c msg).take k)) ∧
    (k % 64 ≠ 0 → ∃ gb capb, v = .slice (some ⟨gb, 0, none⟩) 64 capb ∧ BytesAt W v (blockC key nonce (c + UInt32.ofNat (k / 64))) ∧ Apt u v) ∧ Below w.heap.size w W)
  case atStart => exact ⟨0, by omega, rfl, World.ownsRow_nil _ _ _ _, fun h => absurd rfl h, Below.refl _ _⟩
  case round =>
    obtain ⟨k, hkg, rfl, ho, hv, hb⟩ := hrel
    obtain ⟨A11, cap11, rfl⟩ := own_form ho
    have HO := Lib.hid ho
    have HB := Lib.hid hb
    have HV := Lib.hid hv
    clear ho hb hv
    by_cases hlt : k < n
    · have dk : decide ((k : Int) < (n : Int)) = true := by simp; omega
      obtain ⟨x, hx⟩ : ∃ x, msg[k]? = some x := ⟨_, List.getElem?_eq_getElem (by rw [← ML.out]; exact hlt)⟩
      obtain ⟨bm, om, rfl, hbm, hcm⟩ := H3.out.spots (by intro e; rw [e] at hx; simp at hx)
      have KM := Lib.hid (hcm k x hx)
      have HX := Lib.hid (xorC_next key nonce c msg k x hx)
      obtain ⟨j, hj⟩ : ∃ j, j = k % 64 := ⟨_, rfl⟩
      have hj64 : j < 64 := by omega
      have lk : (k : Int) < (n : Int) := Int.ofNat_lt.2 hlt
      have lj : (j : Int) < 64 := Int.ofNat_lt.2 hj64
      have MODS : Hid ((k : Int).tmod 64 = (j : Int) ∧ (k : Int) % 64 = (j : Int) ∧ IntKind.i64.wrap (j : Int) = (j : Int) ∧ wrap64 (j : Int) = (j : Int)) := by
        have e : (k : Int) % 64 = (j : Int) := by omega
        exact ⟨by rw [Int.tmod_eq_emod_of_nonneg (Int.natCast_nonneg k)]; exact e, e, IntWalk.i64_in _ (by omega), IntWalk.wrap64_in _ (by omega)⟩
      clear hcm hx
      by_cases hj0 : j = 0
      · have dj : ((j : Int) == 0) = true := by simp; omega
        obtain ⟨z, hz⟩ : ∃ z, z = k / 64 := ⟨_, rfl⟩
        have hz6 : z ≤ 1000000 := by omega
        have DIVS : Hid ((k : Int) / 64 = (z : Int) ∧ (k : Int).tdiv 64 = (z : Int) ∧ IntKind.i64.wrap (z : Int) = (z : Int) ∧ wrap64 (z : Int) = (z : Int)) := by
          have hdiv : (k : Int) / 64 = (z : Int) := by rw [hz]; omega
          exact ⟨hdiv, by rw [Int.tdiv_eq_ediv_of_nonneg (Int.natCast_nonneg k)]; exact hdiv, IntWalk.i64_in _ (by omega), IntWalk.wrap64_in _ (by omega)⟩
        have HJ := Lib.hid hj
        have HZ := Lib.hid hz
        clear hj hz
        have cz0 : ∀ w0, (convert 3 57 (.int .i64 (z : Int))).run Tryz.prog w0 = .ok (.int .u32 (z : Int)) w0 := fun w0 => by
          have e2 : IntKind.u32.wrap (z : Int) = (z : Int) := IntWalk.u32_in _ (by omega)
          go_simp
        have cz : ∀ w0, (convert 3 57 (.int .i64 (z : Int))).run Tryz.prog w0 = .ok (wd (UInt32.ofNat z)) w0 := fun w0 => (cz0 w0).trans (by rw [num_wd z (by omega)])
        clear cz0
        obtain ⟨r1, -, -, -, -⟩ := rules_w
        obtain ⟨m1, m2, m3, m4⟩ := MODS.out
        obtain ⟨v0, v1, v2, v3⟩ := DIVS.out
        go_wp2_with fail
        clear m1 m2 m3 m4 v0 v1 v2 v3 dj
        have HJ0 := Lib.hid hj0
        clear hj0
        refine (refCiBlock_any A0 A1 cap0 cap1 key nonce (c + UInt32.ofNat z) wr (H0.out.below HB.out) (H1.out.below HB.out)).mono ?_
        rintro e w2 ⟨v2, rfl, o2, b2⟩
        obtain ⟨gb, capb, rfl, hgb, hgl⟩ := o2.form (by decide)
        have YB := Lib.hid (BytesAt.of_own (l := blockC key nonce (c + UInt32.ofNat z)) (by rw [blockC_length]; exact o2))
        have HA : Hid (Apt (.slice A11 k cap11) (.slice (some ⟨gb, 0, none⟩) 64 capb)) := by
          refine .inr fun e => ?_
          have q := (HO.out.lt gb e).2
          omega
        have HO2 := Lib.hid (kept_below HO.out b2 rfl)
        have HB2 := Lib.hid (HB.out.trans (b2.mono HB.out.size))
        have HJ2 : Hid (j = k % 64) := HJ.out
        have HZ2 : Hid (z = k / 64) := HZ.out
        clear o2 b2 hgb hgl HO HB cz r1 HV DIVS
        go_wp2_with fail
        obtain ⟨y, hy⟩ : ∃ y, (blockC key nonce (c + UInt32.ofNat z))[j]? = some y := ⟨_, List.getElem?_eq_getElem (by rw [blockC_length]; exact hj64)⟩
        have HKB : Hid (keyByte key nonce c k = y) := by
          rw [Hid, keyByte, ← HZ2.out, ← HJ2.out, List.getD, hy]
          rfl
        obtain ⟨gb', ob', eb, hlb, hcb⟩ := YB.out.spots (by intro e; have := blockC_length key nonce (c + UInt32.ofNat z); rw [e] at this; simp at this)
        injection eb with eb
        injection eb with eb1 eb2 _
        subst eb1 eb2
        have ky := hcb j y hy
        rw [Nat.zero_add] at ky
        obtain ⟨xy, hxy⟩ : ∃ v, v = x ^^^ y := ⟨_, rfl⟩
        have xc : bits .xor .u8 (x.toNat : Int) (y.toNat : Int) = (xy.toNat : Int) := by rw [hxy]; exact xor_cell x y
        have HXY := Lib.hid hxy
        clear hxy
        have km : w2.drew.cell? ⟨bm, om + k, none⟩ = some (.int .u8 (x.toNat : Int)) := (HB2.out.drew.cell (p := ⟨bm, om + k, none⟩) hbm).trans KM.out
        have hSS : Below w.heap.size w w2.drew ∧ w2.drew.cell? ⟨gb, j, none⟩ = some (.int .u8 (y.toNat : Int)) ∧ w2.drew.cell? ⟨bm, om + k, none⟩ = some (.int .u8 (x.toNat : Int)) := ⟨HB2.out.drew, ky, km⟩
        refine regS_begin (fun w' => Below w.heap.size w w' ∧ w'.cell? ⟨gb, j, none⟩ = some (.int .u8 (y.toNat : Int)) ∧ w'.cell? ⟨bm, om + k, none⟩ = some (.int .u8 (x.toNat : Int))) (by kernel_rfl) hSS ?_
        have hS : Below w.heap.size w w2.drew ∧ w2.drew.cell? ⟨gb, j, none⟩ = some (.int .u8 (y.toNat : Int)) ∧ w2.drew.cell? ⟨bm, om + k, none⟩ = some (.int .u8 (x.toNat : Int)) := hSS
        have HO3 : Hid (w2.drew.ownsRow w.heap.size 5 1 (.slice A11 k cap11) k (bv ((xorC key nonce c msg).take k))) := HO2.out
        have YB3 : Hid (BytesAt w2.drew (.slice (some ⟨gb, 0, none⟩) 64 capb) (blockC key nonce (c + UInt32.ofNat z))) := Lib.hid (YB.out.keep fun _ _ _ _ => rfl)
        clear hSS hcb ky km hy HO2 HB2 YB
        generalize w2.drew = w3 at *
        obtain ⟨m1, m2, m3, m4⟩ := MODS.out
        refine regS_take (i := 0) (v := ?_) rfl (by kernel_rfl) (by kernel_rfl) (by kernel_rfl) (fun _ _ _ h => h) (by rfl) hS ?hy0 ?_
        case hy0 => intro w' hw'; go_simp; (try with_reducible rfl)
        simp only [Act.put, List.setIfInBounds_toArray, List.set_cons_zero, List.set_cons_succ]
        refine regS_take (i := 1) (v := ?_) rfl (by kernel_rfl) (by kernel_rfl) (by kernel_rfl) (fun _ _ _ h => h) (by rfl) hS ?hy1 ?_
        case hy1 => intro w' hw'; go_simp; (try with_reducible rfl)
        simp only [Act.put, List.setIfInBounds_toArray, List.set_cons_zero, List.set_cons_succ]
        refine regS_take (i := 2) (v := ?_) rfl (by kernel_rfl) (by kernel_rfl) (by kernel_rfl) (fun _ _ _ h => h) (by rfl) hS ?hy2 ?_
        case hy2 => intro w' hw'; go_simp; (try with_reducible rfl)
        simp only [Act.put, List.setIfInBounds_toArray, List.set_cons_zero, List.set_cons_succ]
        refine regS_take (i := 3) (v := ?_) rfl (by kernel_rfl) (by kernel_rfl) (by kernel_rfl) (fun _ _ _ h => h) (by rfl) hS ?hy3 ?_
        case hy3 => intro w' hw'; go_simp; (try with_reducible rfl)
        simp only [Act.put, List.setIfInBounds_toArray, List.set_cons_zero, List.set_cons_succ]
        refine regS_take (i := 4) (v := ?_) rfl (by kernel_rfl) (by kernel_rfl) (by kernel_rfl) (fun _ _ _ h => h) (by rfl) hS ?hy4 ?_
        case hy4 => intro w' hw'; go_simp; (try with_reducible rfl)
        simp only [Act.put, List.setIfInBounds_toArray, List.set_cons_zero, List.set_cons_succ]
        refine regS_take (i := 5) (v := ?_) rfl (by kernel_rfl) (by kernel_rfl) (by kernel_rfl) (fun _ _ _ h => h) (by rfl) hS ?hy5 ?_
        case hy5 => intro w' hw'; go_simp; (try with_reducible rfl)
        simp only [Act.put, List.setIfInBounds_toArray, List.set_cons_zero, List.set_cons_succ]
        refine regS_take (i := 6) (v := ?_) rfl (by kernel_rfl) (by kernel_rfl) (by kernel_rfl) (fun _ _ _ h => h) (by rfl) hS ?hy6 ?_
        case hy6 => intro w' hw'; go_simp; (try with_reducible rfl)
        simp only [Act.put, List.setIfInBounds_toArray, List.set_cons_zero, List.set_cons_succ]
        refine regS_take (i := 7) (v := ?_) rfl (by kernel_rfl) (by kernel_rfl) (by kernel_rfl) (fun _ _ _ h => h) (by rfl) hS ?hy7 ?_
        case hy7 => intro w' hw'; go_simp; (try with_reducible rfl)
        simp only [Act.put, List.setIfInBounds_toArray, List.set_cons_zero, List.set_cons_succ]
        refine regS_take (i := 8) (v := ?_) rfl (by kernel_rfl) (by kernel_rfl) (by kernel_rfl) (fun _ _ _ h => h) (by rfl) hS ?hy8 ?_
        case hy8 => intro w' hw'; go_simp; (try with_reducible rfl)
        simp only [Act.put, List.setIfInBounds_toArray, List.set_cons_zero, List.set_cons_succ]
        refine regS_take (i := 9) (v := ?_) rfl (by kernel_rfl) (by kernel_rfl) (by kernel_rfl) (fun _ _ _ h => h) (by rfl) hS ?hy9 ?_
        case hy9 => intro w' hw'; go_simp; (try with_reducible rfl)
        simp only [Act.put, List.setIfInBounds_toArray, List.set_cons_zero, List.set_cons_succ]
        refine regS_take (i := 10) (v := ?_) rfl (by kernel_rfl) (by kernel_rfl) (by kernel_rfl) (fun _ _ _ h => h) (by rfl) hS ?hy10 ?_
        case hy10 => intro w' hw'; go_simp; (try with_reducible rfl)
        simp only [Act.put, List.setIfInBounds_toArray, List.set_cons_zero, List.set_cons_succ]
        clear xc m1 m2 m3 m4
        refine regS_do (i := 11) rfl (by kernel_rfl) (fun K' hK => ?_)
        go_simp
        have sb : Below w.heap.size w (w3.alloc (.cells #[.int .u8 (xy.toNat : Int)] 5)) := hS.1.alloc hS.1.size _
        have z3 := BytesAt.lit w3 [xy] #[.int .u8 (xy.toNat : Int)] rfl
        have O3 := HO3.out.alloc (.cells #[.int .u8 (xy.toNat : Int)] 5)
        have b33 : Below w3.heap.size w3 (w3.alloc (.cells #[.int .u8 (xy.toNat : Int)] 5)) := (Below.refl _ _).alloc (Nat.le_refl _) _
        have sc : (w3.alloc (.cells #[.int .u8 (xy.toNat : Int)] 5)).cell? ⟨gb, j, none⟩ = some (.int .u8 (y.toNat : Int)) := (b33.cell (p := ⟨gb, j, none⟩) (World.block_lt_of_cell? w3 _ hS.2.1)).trans hS.2.1
        have sm : (w3.alloc (.cells #[.int .u8 (xy.toNat : Int)] 5)).cell? ⟨bm, om + k, none⟩ = some (.int .u8 (x.toNat : Int)) := (sb.cell (p := ⟨bm, om + k, none⟩) hbm).trans KM.out
        have Y3 := YB3.out.below b33
        refine hK.out _ _ ⟨sb, sc, sm⟩ ?_
        clear hK K' YB3 HO3 hS b33
        generalize w3.alloc (.cells #[.int .u8 (xy.toNat : Int)] 5) = w4 at *
        refine regS_do (i := 12) rfl (by kernel_rfl) (fun K' hK => ?_)
        rw [if_pos (by rfl)]
        refine wp_append_bytes_at _ _ rfl w.heap.size _ _ _ rfl O3 _ _ rfl z3 (by simp; omega) sb.size ?_
        intro v5 w5 ho5 hg5 hat5
        have lt5 := O3.lt
        have B5 : Below w.heap.size w w5 := sb.grown hg5 sb.size (fun k hk => (lt5 k hk).1)
        have hfar : (Value.slice A11 k cap11).ownBlock ≠ some gb := HA.out.far.resolve_left (by simp [Value.ownBlock]) |>.symm
        have Y5 := Lib.hid (Y3.keep (w' := w5) fun _ b hb hv => hg5.block b hb (by rw [← hv]; exact fun e => hfar e.symm))
        have A5 : Hid (Apt v5 (.slice (some ⟨gb, 0, none⟩) 64 capb)) := Lib.hid (by
          rcases hat5 with e1 | e1
          · unfold Apt; rw [e1]; exact HA.out
          · refine .inr fun e2 => ?_
            rw [e1] at e2
            have hlt4 : gb < w4.heap.size := World.block_lt_of_cell? w4 _ sc
            simp [Value.ownBlock] at e2
            omega)
        have s5 : w5.cell? ⟨gb, j, none⟩ = some (.int .u8 (y.toNat : Int)) := by
          have hlt4 := World.block_lt_of_cell? w4 _ sc
          rw [← sc]
          exact World.cell?_of_block (hg5.block gb hlt4 (fun e => hfar e.symm))
        have hk1 : Hid (bv ((xorC key nonce c msg).take k) ++ bv [xy] = bv ((xorC key nonce c msg).take (k + 1))) := by
          rw [Hid, HX.out, HKB.out, HXY.out, bv_append]
        rw [hk1.out] at ho5
        obtain ⟨A5', cap5, rfl⟩ := own_form ho5
        have O5 : Hid (w5.ownsRow w.heap.size 5 1 (.slice A5' (k + 1) cap5) (k + 1) (bv ((xorC key nonce c msg).take (k + 1)))) := ho5
        have m5 : w5.cell? ⟨bm, om + k, none⟩ = some (.int .u8 (x.toNat : Int)) := (B5.cell (p := ⟨bm, om + k, none⟩) hbm).trans KM.out
        refine hK.out _ _ ⟨B5, s5, m5⟩ ?_
        have B5h := Lib.hid B5
        clear hK K' ho5 hg5 hat5 lt5 Y3 z3 O3 sb sc sm hfar hk1
        have hS : Below w.heap.size w w5 ∧ w5.cell? ⟨gb, j, none⟩ = some (.int .u8 (y.toNat : Int)) ∧ w5.cell? ⟨bm, om + k, none⟩ = some (.int .u8 (x.toNat : Int)) := ⟨B5, s5, m5⟩
        simp only [Act.put, List.setIfInBounds_toArray, List.set_cons_zero, List.set_cons_succ]
        refine regS_take (i := 13) (v := ?_) rfl (by kernel_rfl) (by kernel_rfl) (by kernel_rfl) (fun _ _ _ h => h) (by rfl) hS ?hy13 ?_
        case hy13 => intro w' hw'; go_simp; (try with_reducible rfl)
        simp only [Act.put, List.setIfInBounds_toArray, List.set_cons_zero, List.set_cons_succ]
        refine regS_end (by kernel_rfl) ?_
        clear hS B5 s5 m5
        go_wp2_with fail
        go_roundg (gk - 1)
        case measure => omega
        case rel =>
          refine ⟨k + 1, by omega, by go_num, O5.out, fun h => ⟨gb, capb, rfl, ?_, A5.out⟩, B5h.out⟩
          have e : (k + 1) / 64 = z := by have := HJ2.out; have := HZ2.out; omega
          rw [e]
          exact Y5.out
      · have dj : ((j : Int) == 0) = false := by simp; omega
        obtain ⟨z, hz⟩ : ∃ z, z = k / 64 := ⟨_, rfl⟩
        obtain ⟨gb, capb, rfl, yb, ha⟩ := HV.out (by omega)
        rw [← hz] at yb
        have YB := Lib.hid yb
        have HA := Lib.hid ha
        have HO2 := Lib.hid HO.out
        have HB2 := Lib.hid HB.out
        have HJ2 : Hid (j = k % 64) := hj
        have HZ2 : Hid (z = k / 64) := hz
        clear hj hz yb ha HO HB HV
        obtain ⟨w2, hw2⟩ : ∃ w2, w2 = wr := ⟨_, rfl⟩
        subst hw2
        obtain ⟨m1, m2, m3, m4⟩ := MODS.out
        go_wp2_with fail
        clear m1 m2 m3 m4 dj
        obtain ⟨y, hy⟩ : ∃ y, (blockC key nonce (c + UInt32.ofNat z))[j]? = some y := ⟨_, List.getElem?_eq_getElem (by rw [blockC_length]; exact hj64)⟩
        have HKB : Hid (keyByte key nonce c k = y) := by
          rw [Hid, keyByte, ← HZ2.out, ← HJ2.out, List.getD, hy]
          rfl
        obtain ⟨gb', ob', eb, hlb, hcb⟩ := YB.out.spots (by intro e; have := blockC_length key nonce (c + UInt32.ofNat z); rw [e] at this; simp at this)
        injection eb with eb
        injection eb with eb1 eb2 _
        subst eb1 eb2
        have ky := hcb j y hy
        rw [Nat.zero_add] at ky
        obtain ⟨xy, hxy⟩ : ∃ v, v = x ^^^ y := ⟨_, rfl⟩
        have xc : bits .xor .u8 (x.toNat : Int) (y.toNat : Int) = (xy.toNat : Int) := by rw [hxy]; exact xor_cell x y
        have HXY := Lib.hid hxy
        clear hxy
        have km : w2.drew.cell? ⟨bm, om + k, none⟩ = some (.int .u8 (x.toNat : Int)) := (HB2.out.drew.cell (p := ⟨bm, om + k, none⟩) hbm).trans KM.out
        have hSS : Below w.heap.size w w2.drew ∧ w2.drew.cell? ⟨gb, j, none⟩ = some (.int .u8 (y.toNat : Int)) ∧ w2.drew.cell? ⟨bm, om + k, none⟩ = some (.int .u8 (x.toNat : Int)) := ⟨HB2.out.drew, ky, km⟩
        refine regS_begin (fun w' => Below w.heap.size w w' ∧ w'.cell? ⟨gb, j, none⟩ = some (.int .u8 (y.toNat : Int)) ∧ w'.cell? ⟨bm, om + k, none⟩ = some (.int .u8 (x.toNat : Int))) (by kernel_rfl) hSS ?_
        have hS : Below w.heap.size w w2.drew ∧ w2.drew.cell? ⟨gb, j, none⟩ = some (.int .u8 (y.toNat : Int)) ∧ w2.drew.cell? ⟨bm, om + k, none⟩ = some (.int .u8 (x.toNat : Int)) := hSS
        have HO3 : Hid (w2.drew.ownsRow w.heap.size 5 1 (.slice A11 k cap11) k (bv ((xorC key nonce c msg).take k))) := HO2.out
        have YB3 : Hid (BytesAt w2.drew (.slice (some ⟨gb, 0, none⟩) 64 capb) (blockC key nonce (c + UInt32.ofNat z))) := Lib.hid (YB.out.keep fun _ _ _ _ => rfl)
        clear hSS hcb ky km hy HO2 HB2 YB
        generalize w2.drew = w3 at *
        obtain ⟨m1, m2, m3, m4⟩ := MODS.out
        refine regS_take (i := 0) (v := ?_) rfl (by kernel_rfl) (by kernel_rfl) (by kernel_rfl) (fun _ _ _ h => h) (by rfl) hS ?hy0 ?_
        case hy0 => intro w' hw'; go_simp; (try with_reducible rfl)
        simp only [Act.put, List.setIfInBounds_toArray, List.set_cons_zero, List.set_cons_succ]
        refine regS_take (i := 1) (v := ?_) rfl (by kernel_rfl) (by kernel_rfl) (by kernel_rfl) (fun _ _ _ h => h) (by rfl) hS ?hy1 ?_
        case hy1 => intro w' hw'; go_simp; (try with_reducible rfl)
        simp only [Act.put, List.setIfInBounds_toArray, List.set_cons_zero, List.set_cons_succ]
        refine regS_take (i := 2) (v := ?_) rfl (by kernel_rfl) (by kernel_rfl) (by kernel_rfl) (fun _ _ _ h => h) (by rfl) hS ?hy2 ?_
        case hy2 => intro w' hw'; go_simp; (try with_reducible rfl)
        simp only [Act.put, List.setIfInBounds_toArray, List.set_cons_zero, List.set_cons_succ]
        refine regS_take (i := 3) (v := ?_) rfl (by kernel_rfl) (by kernel_rfl) (by kernel_rfl) (fun _ _ _ h => h) (by rfl) hS ?hy3 ?_
        case hy3 => intro w' hw'; go_simp; (try with_reducible rfl)
        simp only [Act.put, List.setIfInBounds_toArray, List.set_cons_zero, List.set_cons_succ]
        refine regS_take (i := 4) (v := ?_) rfl (by kernel_rfl) (by kernel_rfl) (by kernel_rfl) (fun _ _ _ h => h) (by rfl) hS ?hy4 ?_
        case hy4 => intro w' hw'; go_simp; (try with_reducible rfl)
        simp only [Act.put, List.setIfInBounds_toArray, List.set_cons_zero, List.set_cons_succ]
        refine regS_take (i := 5) (v := ?_) rfl (by kernel_rfl) (by kernel_rfl) (by kernel_rfl) (fun _ _ _ h => h) (by rfl) hS ?hy5 ?_
        case hy5 => intro w' hw'; go_simp; (try with_reducible rfl)
        simp only [Act.put, List.setIfInBounds_toArray, List.set_cons_zero, List.set_cons_succ]
        refine regS_take (i := 6) (v := ?_) rfl (by kernel_rfl) (by kernel_rfl) (by kernel_rfl) (fun _ _ _ h => h) (by rfl) hS ?hy6 ?_
        case hy6 => intro w' hw'; go_simp; (try with_reducible rfl)
        simp only [Act.put, List.setIfInBounds_toArray, List.set_cons_zero, List.set_cons_succ]
        refine regS_take (i := 7) (v := ?_) rfl (by kernel_rfl) (by kernel_rfl) (by kernel_rfl) (fun _ _ _ h => h) (by rfl) hS ?hy7 ?_
        case hy7 => intro w' hw'; go_simp; (try with_reducible rfl)
        simp only [Act.put, List.setIfInBounds_toArray, List.set_cons_zero, List.set_cons_succ]
        refine regS_take (i := 8) (v := ?_) rfl (by kernel_rfl) (by kernel_rfl) (by kernel_rfl) (fun _ _ _ h => h) (by rfl) hS ?hy8 ?_
        case hy8 => intro w' hw'; go_simp; (try with_reducible rfl)
        simp only [Act.put, List.setIfInBounds_toArray, List.set_cons_zero, List.set_cons_succ]
        refine regS_take (i := 9) (v := ?_) rfl (by kernel_rfl) (by kernel_rfl) (by kernel_rfl) (fun _ _ _ h => h) (by rfl) hS ?hy9 ?_
        case hy9 => intro w' hw'; go_simp; (try with_reducible rfl)
        simp only [Act.put, List.setIfInBounds_toArray, List.set_cons_zero, List.set_cons_succ]
        refine regS_take (i := 10) (v := ?_) rfl (by kernel_rfl) (by kernel_rfl) (by kernel_rfl) (fun _ _ _ h => h) (by rfl) hS ?hy10 ?_
        case hy10 => intro w' hw'; go_simp; (try with_reducible rfl)
        simp only [Act.put, List.setIfInBounds_toArray, List.set_cons_zero, List.set_cons_succ]
        clear xc m1 m2 m3 m4
        refine regS_do (i := 11) rfl (by kernel_rfl) (fun K' hK => ?_)
        go_simp
        have sb : Below w.heap.size w (w3.alloc (.cells #[.int .u8 (xy.toNat : Int)] 5)) := hS.1.alloc hS.1.size _
        have z3 := BytesAt.lit w3 [xy] #[.int .u8 (xy.toNat : Int)] rfl
        have O3 := HO3.out.alloc (.cells #[.int .u8 (xy.toNat : Int)] 5)
        have b33 : Below w3.heap.size w3 (w3.alloc (.cells #[.int .u8 (xy.toNat : Int)] 5)) := (Below.refl _ _).alloc (Nat.le_refl _) _
        have sc : (w3.alloc (.cells #[.int .u8 (xy.toNat : Int)] 5)).cell? ⟨gb, j, none⟩ = some (.int .u8 (y.toNat : Int)) := (b33.cell (p := ⟨gb, j, none⟩) (World.block_lt_of_cell? w3 _ hS.2.1)).trans hS.2.1
        have sm : (w3.alloc (.cells #[.int .u8 (xy.toNat : Int)] 5)).cell? ⟨bm, om + k, none⟩ = some (.int .u8 (x.toNat : Int)) := (sb.cell (p := ⟨bm, om + k, none⟩) hbm).trans KM.out
        have Y3 := YB3.out.below b33
        refine hK.out _ _ ⟨sb, sc, sm⟩ ?_
        clear hK K' YB3 HO3 hS b33
        generalize w3.alloc (.cells #[.int .u8 (xy.toNat : Int)] 5) = w4 at *
        refine regS_do (i := 12) rfl (by kernel_rfl) (fun K' hK => ?_)
        rw [if_pos (by rfl)]
        refine wp_append_bytes_at _ _ rfl w.heap.size _ _ _ rfl O3 _ _ rfl z3 (by simp; omega) sb.size ?_
        intro v5 w5 ho5 hg5 hat5
        have lt5 := O3.lt
        have B5 : Below w.heap.size w w5 := sb.grown hg5 sb.size (fun k hk => (lt5 k hk).1)
        have hfar : (Value.slice A11 k cap11).ownBlock ≠ some gb := HA.out.far.resolve_left (by simp [Value.ownBlock]) |>.symm
        have Y5 := Lib.hid (Y3.keep (w' := w5) fun _ b hb hv => hg5.block b hb (by rw [← hv]; exact fun e => hfar e.symm))
        have A5 : Hid (Apt v5 (.slice (some ⟨gb, 0, none⟩) 64 capb)) := Lib.hid (by
          rcases hat5 with e1 | e1
          · unfold Apt; rw [e1]; exact HA.out
          · refine .inr fun e2 => ?_
            rw [e1] at e2
            have hlt4 : gb < w4.heap.size := World.block_lt_of_cell? w4 _ sc
            simp [Value.ownBlock] at e2
            omega)
        have s5 : w5.cell? ⟨gb, j, none⟩ = some (.int .u8 (y.toNat : Int)) := by
          have hlt4 := World.block_lt_of_cell? w4 _ sc
          rw [← sc]
          exact World.cell?_of_block (hg5.block gb hlt4 (fun e => hfar e.symm))
        have hk1 : Hid (bv ((xorC key nonce c msg).take k) ++ bv [xy] = bv ((xorC key nonce c msg).take (k + 1))) := by
          rw [Hid, HX.out, HKB.out, HXY.out, bv_append]
        rw [hk1.out] at ho5
        obtain ⟨A5', cap5, rfl⟩ := own_form ho5
        have O5 : Hid (w5.ownsRow w.heap.size 5 1 (.slice A5' (k + 1) cap5) (k + 1) (bv ((xorC key nonce c msg).take (k + 1)))) := ho5
        have m5 : w5.cell? ⟨bm, om + k, none⟩ = some (.int .u8 (x.toNat : Int)) := (B5.cell (p := ⟨bm, om + k, none⟩) hbm).trans KM.out
        refine hK.out _ _ ⟨B5, s5, m5⟩ ?_
        have B5h := Lib.hid B5
        clear hK K' ho5 hg5 hat5 lt5 Y3 z3 O3 sb sc sm hfar hk1
        have hS : Below w.heap.size w w5 ∧ w5.cell? ⟨gb, j, none⟩ = some (.int .u8 (y.toNat : Int)) ∧ w5.cell? ⟨bm, om + k, none⟩ = some (.int .u8 (x.toNat : Int)) := ⟨B5, s5, m5⟩
        simp only [Act.put, List.setIfInBounds_toArray, List.set_cons_zero, List.set_cons_succ]
        refine regS_take (i := 13) (v := ?_) rfl (by kernel_rfl) (by kernel_rfl) (by kernel_rfl) (fun _ _ _ h => h) (by rfl) hS ?hy13 ?_
        case hy13 => intro w' hw'; go_simp; (try with_reducible rfl)
        simp only [Act.put, List.setIfInBounds_toArray, List.set_cons_zero, List.set_cons_succ]
        refine regS_end (by kernel_rfl) ?_
        clear hS B5 s5 m5
        go_wp2_with fail
        go_roundg (gk - 1)
        case measure => omega
        case rel =>
          refine ⟨k + 1, by omega, by go_num, O5.out, fun h => ⟨gb, capb, rfl, ?_, A5.out⟩, B5h.out⟩
          have e : (k + 1) / 64 = z := by have := HJ2.out; have := HZ2.out; omega
          rw [e]
          exact Y5.out
    · have dk : decide ((k : Int) < (n : Int)) = false := by simp; omega
      have hk : k = n := by omega
      have HY : Hid (BytesAt wr (.slice A11 k cap11) (xorC key nonce c msg)) := by
        apply BytesAt.of_own (base := w.heap.size)
        have e : (xorC key nonce c msg).take k = xorC key nonce c msg := List.take_of_length_le (by rw [XL.out, ← ML.out]; omega)
        have q := HO.out
        rw [e] at q
        rw [XL.out, ← ML.out, ← hk]
        exact q
      clear HO HV
      go_wp2
      go_ret2
      exact ⟨_, rfl, HY.out, HB.out⟩
end Go.Proofs.YtmnhpkdldeifgaaGreatDoor
