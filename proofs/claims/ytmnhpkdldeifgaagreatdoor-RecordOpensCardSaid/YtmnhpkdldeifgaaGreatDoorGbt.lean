/- What the document's Key and Sum of layer 4 answer. What the document's Expand and Named (carcanetref05) answer. -/
import Derived.Test.YtmnhpkdldeifgaaGreatDoorGba
import Derived.Test.YtmnhpkdldeifgaaGreatDoorGbs
import Derived.Test.YtmnhpkdldeifgaaGreatDoorGb
import Derived.Test.YtmnhpkdldeifgaaGreatDoorGbb
namespace Go.Proofs.YtmnhpkdldeifgaaGreatDoor
set_option maxRecDepth 100000
open Go.RowKit

theorem xor_54 (x : UInt8) : bits .xor .u8 (x.toNat : Int) 54 = ((x ^^^ 54).toNat : Int) := xor_cell x 54
theorem xor_92 (x : UInt8) : bits .xor .u8 (x.toNat : Int) 92 = ((x ^^^ 92).toNat : Int) := xor_cell x 92
theorem zeros_next (b : List UInt8) (k : Nat) (hb : b.length ≤ k) : bv (b ++ List.replicate (k - b.length) 0) ++ bv [0] = bv (b ++ List.replicate (k + 1 - b.length) 0) := by
  rw [← bv_append, show k + 1 - b.length = (k - b.length) + 1 by omega, List.replicate_succ', List.append_assoc]
theorem key_end (l b : List UInt8) (hb : b = baseL l) : bv (b ++ List.replicate (64 - b.length) 0) = bv (keyL l) := by subst hb; rfl

set_option maxHeartbeats 1000000 in
theorem refKey_any (v : Value) (l : List UInt8) (w : World) (h : BytesAt w v l) (hl : l.length ≤ 5000) :
    Calls Tryz.prog 92 #[v] w fun e w' => ∃ v', e = .returned v' ∧ BytesAt w' v' (keyL l) ∧ Below w.heap.size w w' := by
  have H0 := Lib.hid h
  obtain ⟨A0, cap0, rfl, hcap0, -⟩ := h
  go_enter Tryz.func92, Tryz.ntmps92
  go_wp2_with (with_reducible refine wpList_append_bytes rfl _ _ rfl w.heap.size _ _ _ ?hv (own_empty w) _ _ ?hx (H0.out.below ((Below.refl _ _).alloc (Nat.le_refl _) _)) ?hlen ?hbase ?_)
  case hv => exact rfl
  case hx => exact rfl
  case hlen => omega
  case hbase => simp
  intro v2 w2 ho2 hg2
  have B2 := Lib.hid (((Below.refl w.heap.size w).alloc (Nat.le_refl _) (.cells #[] 5)).grown hg2 (by simp) (fun k hk => ((own_empty w).lt k hk).1))
  have HO2 : Hid (w2.ownsRow w.heap.size 5 1 v2 l.length (bv l)) := Lib.hid (by simpa using ho2)
  clear ho2 hg2
  by_cases h64 : l.length ≤ 64
  · have d : decide ((64 : Int) < (l.length : Int)) = false := by simp; omega
    have HB : Hid (l = baseL l) := Lib.hid (by rw [baseL, if_pos h64])
    go_wp2_with fail
    go_loopw [3] (fun v wr => ∃ k A cap, v = .slice A k cap ∧ l.length ≤ k ∧ k ≤ 64 ∧ wr.ownsRow w.heap.size 5 1 v k (bv (l ++ List.replicate (k - l.length) 0)) ∧ Below w.heap.size w wr) (fun v _ => 64 - sliceLen v)
    case atStart =>
      obtain ⟨A, cap, hv⟩ := own_form HO2.out
      exact ⟨l.length, A, cap, hv, Nat.le_refl _, h64, by simpa using HO2.out, B2.out⟩
    case round =>
      obtain ⟨k, A, cap, rfl, hk1, hk2, ho, hb⟩ := hrel
      have HO := Lib.hid ho
      have HBe := Lib.hid hb
      have HZ := Lib.hid (zeros_next l k hk1)
      clear ho hb HO2 B2
      by_cases hlt : k < 64
      · have d : decide ((k : Int) < 64) = true := by simp; omega
        have hz : BytesAt (wr.alloc (.cells #[.int .u8 0] 5)) (.slice (some ⟨wr.heap.size, 0, none⟩) 1 1) [0] := BytesAt.lit wr [0] _ rfl
        have hO := HO.out.alloc (.cells #[.int .u8 0] 5)
        have hB := HBe.out.alloc HBe.out.size (.cells #[.int .u8 0] 5)
        go_wp2_with (with_reducible refine wpList_append_bytes rfl _ _ rfl w.heap.size _ _ _ ?hv hO _ _ ?hx hz ?hlen ?hbase ?_)
        case hv => exact rfl
        case hx => exact rfl
        case hlen => simp; omega
        case hbase => exact hB.size
        intro v5 w5 ho5 hg5
        have B5 := Lib.hid (hB.grown hg5 hB.size (fun k hk => (hO.lt k hk).1))
        rw [HZ.out] at ho5
        have HO5 : Hid (w5.ownsRow w.heap.size 5 1 v5 (k + 1) (bv (l ++ List.replicate (k + 1 - l.length) 0))) := Lib.hid ho5
        obtain ⟨A5, cap5, rfl⟩ := own_form HO5.out
        clear ho5 hg5 hz hO hB
        go_wp2_with fail
        exact ⟨⟨k + 1, A5, cap5, rfl, by omega, by omega, HO5.out, B5.out⟩, by simp [sliceLen]; omega⟩
      · have d : decide ((k : Int) < 64) = false := by simp; omega
        have hk : k = 64 := by omega
        subst hk
        have HY : Hid (BytesAt wr (.slice A 64 cap) (keyL l)) := by
          apply BytesAt.of_own (base := w.heap.size)
          rw [keyL_length, ← key_end l l HB.out]
          exact HO.out
        clear HO hlt hk1 hk2
        go_wp2
        go_ret
        exact ⟨_, rfl, HY.out, HBe.out⟩
  · have d : decide ((64 : Int) < (l.length : Int)) = true := by simp; omega
    have HB : Hid (sumL l = baseL l) := Lib.hid (by rw [baseL, if_neg h64])
    have SL := Lib.hid (sumL_length l)
    clear HO2
    go_wp2_with fail
    refine (refSum_own _ l hl w2 (H0.out.below B2.out)).mono ?_
    rintro e w3 ⟨v3, rfl, y3, b3⟩
    have B3 := Lib.hid (B2.out.trans (b3.mono B2.out.size))
    have Y3 : Hid (w3.ownsRow w.heap.size 5 1 v3 (sumL l).length (bv (sumL l))) := own_less y3 B2.out.size
    clear y3 b3 B2
    have HE := Lib.hid (key_end l (sumL l) HB.out)
    have KL := Lib.hid (keyL_length l)
    generalize hKK : keyL l = K at *
    have HKK := Lib.hid hKK
    clear hKK
    generalize sumL l = b at *
    rw [SL.out] at Y3
    clear d h64 HB
    go_wp2_with fail
    go_loopw [3] (fun v wr => ∃ k A cap, v = .slice A k cap ∧ b.length ≤ k ∧ k ≤ 64 ∧ wr.ownsRow w.heap.size 5 1 v k (bv (b ++ List.replicate (k - b.length) 0)) ∧ Below w.heap.size w wr) (fun v _ => 64 - sliceLen v)
    case atStart =>
      obtain ⟨A, cap, hv⟩ := own_form Y3.out
      have sl := SL.out
      refine ⟨32, A, cap, hv, by omega, by omega, ?_, B3.out⟩
      rw [sl]
      simpa using Y3.out
    case round =>
      obtain ⟨k, A, cap, rfl, hk1, hk2, ho, hb⟩ := hrel
      have HO := Lib.hid ho
      have HBe := Lib.hid hb
      have HZ := Lib.hid (zeros_next b k hk1)
      clear ho hb Y3 B3
      by_cases hlt : k < 64
      · have d : decide ((k : Int) < 64) = true := by simp; omega
        have hz : BytesAt (wr.alloc (.cells #[.int .u8 0] 5)) (.slice (some ⟨wr.heap.size, 0, none⟩) 1 1) [0] := BytesAt.lit wr [0] _ rfl
        have hO := HO.out.alloc (.cells #[.int .u8 0] 5)
        have hB := HBe.out.alloc HBe.out.size (.cells #[.int .u8 0] 5)
        go_wp2_with (with_reducible refine wpList_append_bytes rfl _ _ rfl w.heap.size _ _ _ ?hv hO _ _ ?hx hz ?hlen ?hbase ?_)
        case hv => exact rfl
        case hx => exact rfl
        case hlen => simp; omega
        case hbase => exact hB.size
        intro v5 w5 ho5 hg5
        have B5 := Lib.hid (hB.grown hg5 hB.size (fun k hk => (hO.lt k hk).1))
        rw [HZ.out] at ho5
        have HO5 : Hid (w5.ownsRow w.heap.size 5 1 v5 (k + 1) (bv (b ++ List.replicate (k + 1 - b.length) 0))) := Lib.hid ho5
        obtain ⟨A5, cap5, rfl⟩ := own_form HO5.out
        clear ho5 hg5 hz hO hB
        go_wp2_with fail
        exact ⟨⟨k + 1, A5, cap5, rfl, by omega, by omega, HO5.out, B5.out⟩, by simp [sliceLen]; omega⟩
      · have d : decide ((k : Int) < 64) = false := by simp; omega
        have hk : k = 64 := by omega
        subst hk
        have HY : Hid (BytesAt wr (.slice A 64 cap) K) := by
          apply BytesAt.of_own (base := w.heap.size)
          rw [KL.out, ← HE.out]
          exact HO.out
        clear HO hlt hk1 hk2
        go_wp2
        go_ret
        refine ⟨_, rfl, ?_, HBe.out⟩
        rw [HKK.out]
        exact HY.out

theorem xorB_next (c : UInt8) (K : List UInt8) (k : Nat) (x : UInt8) (h : K[k]? = some x) : bv (xorB c (K.take k)) ++ bv [x ^^^ c] = bv (xorB c (K.take (k + 1))) := by
  rw [← bv_append, take_at h]
  simp [xorB]

set_option maxHeartbeats 1000000 in
theorem refMac_own (v0 v1 : Value) (kk m : List UInt8) (w : World) (h0 : BytesAt w v0 kk) (h1 : BytesAt w v1 m) (hk : kk.length ≤ 5000) (hm : m.length ≤ 4900) :
    Calls Tryz.prog 78 #[v0, v1] w fun e w' => ∃ v', e = .returned v' ∧ w'.ownsRow w.heap.size 5 1 v' (macL kk m).length (bv (macL kk m)) ∧ Below w.heap.size w w' := by
  have H0 := Lib.hid h0
  have H1 := Lib.hid h1
  have KL := Lib.hid (keyL_length kk)
  have ML : Hid (macL kk m = sumL (xorB 92 (keyL kk) ++ sumL (xorB 54 (keyL kk) ++ m))) := Lib.hid rfl
  have SL := Lib.hid (sumL_length (xorB 54 (keyL kk) ++ m))
  obtain ⟨A0, cap0, rfl, hcap0, -⟩ := h0
  obtain ⟨A1, cap1, rfl, hcap1, -⟩ := h1
  generalize macL kk m = M at *
  go_enter Tryz.func78, Tryz.ntmps78
  go_wp2_with fail
  refine (refKey_any _ kk w H0.out hk).mono ?_
  rintro e w1 ⟨v1, rfl, y1, b1⟩
  have B1 := Lib.hid b1
  have H11 := Lib.hid (H1.out.below b1)
  generalize keyL kk = K at *
  obtain ⟨Ak, capk, rfl, hcapk, -⟩ := id y1
  obtain ⟨bk, offk, rfl, hbk, hcell⟩ := y1.spots (by intro e; have := KL.out; rw [e] at this; simp at this)
  have HC := Lib.hid hcell
  rw [KL.out]
  clear y1 b1 hcell H0 H1 hcapk
  go_wp2_with fail
  go_loopw [6, 7, 8] (fun vi vo i wr => ∃ k : Nat, k ≤ 64 ∧ i = .int .i64 k ∧ wr.ownsRow w1.heap.size 5 1 vi k (bv (xorB 54 (K.take k))) ∧ wr.ownsRow w1.heap.size 5 1 vo k (bv (xorB 92 (K.take k))) ∧ Apt vi vo ∧ Below w1.heap.size w1 wr) (fun _ _ i _ => 64 - (intOf i).toNat)
  case atStart => exact ⟨0, Nat.zero_le _, rfl, World.ownsRow_nil _ _ _ _, World.ownsRow_nil _ _ _ _, .inl ⟨rfl, rfl⟩, Below.refl _ _⟩
  case round =>
    obtain ⟨k, hk64, rfl, hi, ho, hap, hb⟩ := hrel
    have HI := Lib.hid hi
    have HO := Lib.hid ho
    have HA := Lib.hid hap
    have HBe := Lib.hid hb
    clear hi ho hap hb
    by_cases hlt : k < 64
    · have d : decide ((k : Int) < 64) = true := by simp; omega
      obtain ⟨x, hx⟩ : ∃ x, K[k]? = some x := ⟨_, List.getElem?_eq_getElem (show k < K.length by rw [KL.out]; exact hlt)⟩
      have HX := Lib.hid hx
      have N1 := Lib.hid (xorB_next 54 K k x hx)
      have N2 := Lib.hid (xorB_next 92 K k x hx)
      have c0 : wr.cell? ⟨bk, offk + k, none⟩ = some (.int .u8 (x.toNat : Int)) := (HBe.out.cell (p := ⟨bk, offk + k, none⟩) hbk).trans (HC.out k x hx)
      have z1 : BytesAt (wr.alloc (.cells #[.int .u8 (bits .xor .u8 (x.toNat : Int) 54)] 5)) (.slice (some ⟨wr.heap.size, 0, none⟩) 1 1) [x ^^^ 54] := by
        rw [xor_54]; exact BytesAt.lit wr [x ^^^ 54] _ rfl
      have hI1 := HI.out.alloc (.cells #[.int .u8 (bits .xor .u8 (x.toNat : Int) 54)] 5)
      have hO1 := HO.out.alloc (.cells #[.int .u8 (bits .xor .u8 (x.toNat : Int) 54)] 5)
      have hB1 := HBe.out.alloc HBe.out.size (.cells #[.int .u8 (bits .xor .u8 (x.toNat : Int) 54)] 5)
      clear HI HO HBe hx
      go_wp2_with (with_reducible refine wpList_append_bytes_at rfl _ _ rfl w1.heap.size _ _ _ ?hv hI1 _ _ ?hx z1 ?hlen ?hbase ?_)
      case hv => exact rfl
      case hx => exact rfl
      case hlen => simp; omega
      case hbase => exact hB1.size
      intro vi' w3 hi3 hg3 hat3
      have lt3 := hI1.lt
      have O3 := Lib.hid (hO1.kept hg3 HA.out.far)
      have A3 := Lib.hid (HA.out.next hO1 hat3 (by simp))
      have B3 := Lib.hid (hB1.grown hg3 hB1.size (fun k hk => (lt3 k hk).1))
      rw [N1.out] at hi3
      have I3 : Hid (w3.ownsRow w1.heap.size 5 1 vi' (k + 1) (bv (xorB 54 (K.take (k + 1))))) := Lib.hid hi3
      clear lt3 hi3 hg3 hat3 hO1 hI1 hB1 z1 c0 HA
      have c3 : w3.cell? ⟨bk, offk + k, none⟩ = some (.int .u8 (x.toNat : Int)) := (B3.out.cell (p := ⟨bk, offk + k, none⟩) hbk).trans (HC.out k x HX.out)
      have z1 : BytesAt (w3.alloc (.cells #[.int .u8 (bits .xor .u8 (x.toNat : Int) 92)] 5)) (.slice (some ⟨w3.heap.size, 0, none⟩) 1 1) [x ^^^ 92] := by
        rw [xor_92]; exact BytesAt.lit w3 [x ^^^ 92] _ rfl
      have hI1 := I3.out.alloc (.cells #[.int .u8 (bits .xor .u8 (x.toNat : Int) 92)] 5)
      have hO1 := O3.out.alloc (.cells #[.int .u8 (bits .xor .u8 (x.toNat : Int) 92)] 5)
      have hB1 := B3.out.alloc B3.out.size (.cells #[.int .u8 (bits .xor .u8 (x.toNat : Int) 92)] 5)
      clear I3 O3 B3
      go_wp2_with (with_reducible refine wpList_append_bytes_at rfl _ _ rfl w1.heap.size _ _ _ ?hv hO1 _ _ ?hx z1 ?hlen ?hbase ?_)
      case hv => exact rfl
      case hx => exact rfl
      case hlen => simp; omega
      case hbase => exact hB1.size
      intro vo' w4 ho4 hg4 hat4
      have lt4 := hO1.lt
      have I4 := Lib.hid (hI1.kept hg4 A3.out.turn.far)
      have A4 := Lib.hid (A3.out.turn.next hI1 hat4 (by simp)).turn
      have B4 := Lib.hid (hB1.grown hg4 hB1.size (fun k hk => (lt4 k hk).1))
      rw [N2.out] at ho4
      have O4 : Hid (w4.ownsRow w1.heap.size 5 1 vo' (k + 1) (bv (xorB 92 (K.take (k + 1))))) := Lib.hid ho4
      clear lt4 ho4 hg4 hat4 hO1 hI1 hB1 z1 c3 A3 N1 N2
      go_wp2_with fail
      exact ⟨⟨k + 1, by omega, by go_num, I4.out, O4.out, A4.out, B4.out⟩, by simp [intOf]; omega⟩
    · have d : decide ((k : Int) < 64) = false := by simp; omega
      have hk : k = 64 := by omega
      subst hk
      have eK : K.take 64 = K := List.take_of_length_le (by rw [KL.out]; omega)
      rw [eK] at HI HO
      have X1 : Hid ((xorB 54 K).length = 64) := Lib.hid (by rw [xorB_length]; exact KL.out)
      have X2 : Hid ((xorB 92 K).length = 64) := Lib.hid (by rw [xorB_length]; exact KL.out)
      have HM1 := Lib.hid (H11.out.below HBe.out)
      generalize xorB 54 K = I at *
      generalize xorB 92 K = O at *
      have E1 : Hid (bv I ++ bv m = bv (I ++ m)) := Lib.hid (bv_append _ _).symm
      have L1 : Hid ((I ++ m).length = 64 + m.length) := Lib.hid (by simp [X1.out])
      clear hlt hk64 eK H11
      go_wp2_with (with_reducible refine wpList_append_bytes rfl _ _ rfl w1.heap.size _ _ _ ?hv HI.out _ _ ?hx HM1.out ?hlen ?hbase ?_)
      case hv => exact rfl
      case hx => exact rfl
      case hlen => omega
      case hbase => exact HBe.out.size
      intro v5 w5 ho5 hg5
      have lt5 := HI.out.lt
      have O5 := Lib.hid (HO.out.kept hg5 HA.out.far)
      have B5 := Lib.hid (HBe.out.grown hg5 HBe.out.size (fun k hk => (lt5 k hk).1))
      rw [E1.out, ← L1.out] at ho5
      have Y5 := Lib.hid (BytesAt.of_own ho5)
      have L5 : Hid ((I ++ m).length ≤ 5000) := Lib.hid (by rw [L1.out]; omega)
      clear lt5 ho5 hg5 HI HO HA HBe E1 L1
      generalize I ++ m = S at *
      go_wp2_with fail
      refine (refSum_any v5 S L5.out w5 Y5.out).mono ?_
      rintro e w6 ⟨v6, rfl, y6, b6⟩
      have O6 := Lib.hid (kept_below O5.out b6 rfl)
      have B6 := Lib.hid (B5.out.trans (b6.mono B5.out.size))
      have Y6 := Lib.hid y6
      generalize sumL S = R at *
      have E2 : Hid (bv O ++ bv R = bv (O ++ R)) := Lib.hid (bv_append _ _).symm
      have hR : R.length = 32 := SL.out
      have L2 : Hid ((O ++ R).length = 96) := Lib.hid (by simp [X2.out, hR])
      clear y6 b6 O5 Y5
      go_wp2_with (with_reducible refine wpList_append_bytes rfl _ _ rfl w1.heap.size _ _ _ ?hv O6.out _ _ ?hx Y6.out ?hlen ?hbase ?_)
      case hv => exact rfl
      case hx => exact rfl
      case hlen => omega
      case hbase => exact B6.out.size
      intro v7 w7 ho7 hg7
      have lt7 := O6.out.lt
      have B7 := Lib.hid (B6.out.grown hg7 B6.out.size (fun k hk => (lt7 k hk).1))
      rw [E2.out, ← L2.out] at ho7
      have Y7 := Lib.hid (BytesAt.of_own ho7)
      have L7 : Hid ((O ++ R).length ≤ 5000) := Lib.hid (by rw [L2.out]; decide)
      clear lt7 ho7 hg7 O6 Y6 B6
      go_wp2_with fail
      refine (refSum_own v7 (O ++ R) L7.out w7 Y7.out).mono ?_
      rintro e w8 ⟨v8, rfl, y8, b8⟩
      rw [← ML.out] at y8
      have Y8 : Hid (w8.ownsRow w.heap.size 5 1 v8 M.length (bv M)) := own_less y8 (Nat.le_trans B1.out.size B7.out.size)
      have B8 := Lib.hid (B1.out.trans ((B7.out.trans (b8.mono B7.out.size)).mono B1.out.size))
      clear y8 b8
      go_wp2
      go_ret
      exact ⟨_, rfl, Y8.out, B8.out⟩
theorem refMac_any (v0 v1 : Value) (kk m : List UInt8) (w : World) (h0 : BytesAt w v0 kk) (h1 : BytesAt w v1 m) (hk : kk.length ≤ 5000) (hm : m.length ≤ 4900) :
    Calls Tryz.prog 78 #[v0, v1] w fun e w' => ∃ v', e = .returned v' ∧ BytesAt w' v' (macL kk m) ∧ Below w.heap.size w w' :=
  (refMac_own v0 v1 kk m w h0 h1 hk hm).mono fun _ _ ⟨v', he, ho, hb⟩ => ⟨v', he, BytesAt.of_own ho, hb⟩
end Go.Proofs.YtmnhpkdldeifgaaGreatDoor

namespace Go.Proofs.YtmnhpkdldeifgaaGreatDoor
set_option maxRecDepth 100000
open Go.RowKit

set_option maxHeartbeats 1000000 in
theorem refExpand_bad (v0 v1 : Value) (z : Int) (hz : z < 0 ∨ 8160 < z) (w : World) :
    Calls Tryz.prog 62 #[v0, v1, .int .i64 z] w fun e w' => e = .returned (.tuple #[.slice none 0 0, .int .i64 2]) ∧ Below w.heap.size w w' := by
  by_cases h0 : z < 0
  · have d0 : decide (z < 0) = true := by simpa using h0
    clear hz
    go_enter Tryz.func62, Tryz.ntmps62
    go_wp2
    go_ret2
    exact ⟨rfl, Below.refl _ _⟩
  · have d0 : decide (z < 0) = false := by simpa using h0
    have d1 : decide (8160 < z) = true := by simp; omega
    clear hz
    go_enter Tryz.func62, Tryz.ntmps62
    go_wp2
    go_ret2
    exact ⟨rfl, Below.refl _ _⟩

set_option maxHeartbeats 4000000 in
theorem refExpand_any (v0 v1 : Value) (key info : List UInt8) (n : Nat) (w : World) (h0 : BytesAt w v0 key) (h1 : BytesAt w v1 info) (hk : key.length ≤ 5000) (hi : info.length ≤ 4800) (hn : n ≤ 8160) :
    Calls Tryz.prog 62 #[v0, v1, .int .i64 (n : Int)] w fun e w' => ∃ v', e = .returned (.tuple #[v', .int .i64 0]) ∧ BytesAt w' v' (expandL key info n) ∧ Below w.heap.size w w' := by
  have d0 : decide ((n : Int) < 0) = false := by simp
  have d1 : decide ((8160 : Int) < (n : Int)) = false := by simp; omega
  have H0 := Lib.hid h0
  have H1 := Lib.hid h1
  obtain ⟨A0, cap0, rfl, -, -⟩ := h0
  obtain ⟨A1, cap1, rfl, -, -⟩ := h1
  go_enter Tryz.func62, Tryz.ntmps62
  go_wp2_with fail
  go_loopw [8, 9, 10] (fun s8 s9 s10 wr => ∃ k : Nat, 32 * k < n + 32 ∧ s10 = .int .i64 ((k + 1 : Nat) : Int) ∧ wr.ownsRow w.heap.size 5 1 s8 (32 * k) (bv (exOut key info k)) ∧ BytesAt wr s9 (exT key info k) ∧ Below w.heap.size w wr) (fun _ _ s10 _ => 300 - (intOf s10).toNat)
  case atStart => exact ⟨0, by omega, rfl, World.ownsRow_nil _ _ _ _, BytesAt.nil _, Below.refl _ _⟩
  case round =>
    obtain ⟨k, hkn, rfl, ho, hb9, hb⟩ := hrel
    have HB := Lib.hid hb
    have H9 := Lib.hid hb9
    obtain ⟨A9, cap9, rfl, -, -⟩ := hb9
    obtain ⟨A8, cap8, rfl⟩ := own_form ho
    have HO := Lib.hid ho
    clear ho hb
    by_cases hlt : 32 * k < n
    · have hx : IntKind.u8.wrap ((k + 1 : Nat) : Int) = ((UInt8.ofNat (k + 1)).toNat : Int) := by
        rw [ofNat_u8 _ (by omega), IntWalk.u8_in _ (by omega)]
      obtain ⟨q, hq⟩ : ∃ q, q = 32 * k := ⟨_, rfl⟩
      have HQ := Lib.hid hq
      rw [← hq] at HO hlt ⊢
      have dq : decide ((q : Int) < (n : Int)) = true := by simp; omega
      have HM : Hid (macL key (exT key info k ++ info ++ [UInt8.ofNat (k + 1)]) = exT key info (k + 1)) := Lib.hid rfl
      have HTM := Lib.hid (exT_most key info k)
      have HL : Hid ((exT key info (k + 1)).length = 32) := exT_length key info k
      have HE : Hid (exOut key info k ++ exT key info (k + 1) = exOut key info (k + 1)) := Lib.hid rfl
      generalize UInt8.ofNat (k + 1) = x at *
      clear hq
      generalize hp : k + 1 = p at *
      have HP := Lib.hid hp
      clear hp
      generalize exT key info k = T0 at *
      have o1 := own_empty wr
      have b1 : Below wr.heap.size wr (wr.alloc (.cells #[] 5)) := (Below.refl _ _).alloc (Nat.le_refl _) _
      go_wp2_with (with_reducible refine wpList_append_bytes rfl _ _ rfl wr.heap.size _ _ _ ?hv o1 _ _ ?hx (H9.out.below b1) ?hlen ?hbase ?_)
      case hv => exact rfl
      case hx => exact rfl
      case hlen => have := HTM.out; omega
      case hbase => exact b1.size
      intro v2 w2 ho2 hg2
      have lt2 := o1.lt
      have B2 := Lib.hid (b1.grown hg2 b1.size (fun k hk => (lt2 k hk).1))
      have O2 : Hid (w2.ownsRow wr.heap.size 5 1 v2 T0.length (bv T0)) := by simpa [Hid] using ho2
      obtain ⟨A2, cap2, rfl⟩ := own_form O2.out
      clear lt2 ho2 hg2 o1 b1
      have HI2 := Lib.hid (H1.out.below (HB.out.trans (B2.out.mono HB.out.size)))
      go_wp2_with (with_reducible refine wpList_append_bytes rfl _ _ rfl wr.heap.size _ _ _ ?hv O2.out _ _ ?hx HI2.out ?hlen ?hbase ?_)
      case hv => exact rfl
      case hx => exact rfl
      case hlen => have := HTM.out; omega
      case hbase => exact B2.out.size
      intro v3 w3 ho3 hg3
      have lt3 := O2.out.lt
      have B3 := Lib.hid (B2.out.grown hg3 B2.out.size (fun k hk => (lt3 k hk).1))
      rw [← bv_append] at ho3
      have O3 := Lib.hid ho3
      obtain ⟨A3, cap3, rfl⟩ := own_form ho3
      clear lt3 ho3 hg3 O2 B2 HI2
      have z3 : BytesAt (w3.alloc (.cells #[.int .u8 (x.toNat : Int)] 5)) (.slice (some ⟨w3.heap.size, 0, none⟩) 1 1) [x] := BytesAt.lit w3 [x] _ rfl
      have o3 := O3.out.alloc (.cells #[.int .u8 (x.toNat : Int)] 5)
      have b3 := B3.out.alloc B3.out.size (.cells #[.int .u8 (x.toNat : Int)] 5)
      go_wp2_with (with_reducible refine wpList_append_bytes rfl _ _ rfl wr.heap.size _ _ _ ?hv o3 _ _ ?hx z3 ?hlen ?hbase ?_)
      case hv => exact rfl
      case hx => exact rfl
      case hlen => have := HTM.out; simp; omega
      case hbase => exact b3.size
      intro v4 w4 ho4 hg4
      have lt4 := o3.lt
      have B4 := Lib.hid (b3.grown hg4 b3.size (fun k hk => (lt4 k hk).1))
      rw [← bv_append] at ho4
      have Y4 := Lib.hid (BytesAt.of_own (l := T0 ++ info ++ [x]) (by simpa [Nat.add_assoc] using ho4))
      have LY : Hid ((T0 ++ info ++ [x]).length ≤ 4900) := by
        have := HTM.out
        simp [Hid]
        omega
      clear lt4 ho4 hg4 o3 b3 z3 O3 B3
      have BW := Lib.hid (HB.out.trans (B4.out.mono HB.out.size))
      have OW := Lib.hid (kept_below HO.out B4.out rfl)
      generalize T0 ++ info ++ [x] = M at *
      go_wp2_with fail
      refine (refMac_own _ v4 key M w4 (H0.out.below BW.out) Y4.out hk LY.out).mono ?_
      rintro e w5 ⟨v5, rfl, o5, b5⟩
      rw [HM.out] at o5
      have B5 := Lib.hid (BW.out.trans (b5.mono BW.out.size))
      have O5 := Lib.hid (kept_below OW.out b5 rfl)
      have Y5 := Lib.hid (BytesAt.of_own o5)
      have A5 : Hid (v5.ownBlock = none ∨ v5.ownBlock ≠ (Value.slice A8 q cap8).ownBlock) := by
        rcases hb : v5.ownBlock with _ | b
        · exact .inl rfl
        · refine .inr fun e => ?_
          have q1 := (o5.lt b hb).1
          have q2 := (OW.out.lt b e.symm).2
          omega
      clear o5 b5 BW OW Y4 B4 HO HB
      go_wp2_with (with_reducible refine wpList_append_bytes rfl _ _ rfl w.heap.size _ _ _ ?hv O5.out _ _ ?hx Y5.out ?hlen ?hbase ?_)
      case hv => exact rfl
      case hx => exact rfl
      case hlen => have := HL.out; omega
      case hbase => exact B5.out.size
      intro v6 w6 ho6 hg6
      have lt6 := O5.out.lt
      have B6 := Lib.hid (B5.out.grown hg6 B5.out.size (fun k hk => (lt6 k hk).1))
      have Y6 := Lib.hid (Y5.out.keep (w' := w6) fun _ b hb hv => hg6.block b hb (by rw [← hv]; exact (A5.out.resolve_left (by rw [hv]; simp))))
      rw [← bv_append, HE.out, show q + (exT key info p).length = 32 * p by have := HL.out; have := HQ.out; have := HP.out; omega] at ho6
      have O6 := Lib.hid ho6
      obtain ⟨A6, cap6, rfl⟩ := own_form ho6
      clear lt6 ho6 hg6 O5 Y5 A5 B5 hx
      have hp : p ≤ 255 := by have := HP.out; have := HQ.out; omega
      have tw : IntKind.i64.wrap ((p : Int) + 1) = ((p + 1 : Nat) : Int) := by rw [IntWalk.i64_in _ (by omega)]; omega
      go_wp2_with fail
      exact ⟨⟨p, by have := HP.out; have := HQ.out; omega, by go_num, O6.out, Y6.out, B6.out⟩, by simp [intOf]; omega⟩
    · obtain ⟨q, hq⟩ : ∃ q, q = 32 * k := ⟨_, rfl⟩
      have HQ := Lib.hid hq
      rw [← hq] at HO hlt ⊢
      have dq : decide ((q : Int) < (n : Int)) = false := by simp; omega
      have YO := Lib.hid (BytesAt.of_own (l := exOut key info k) (by have e := exOut_length key info k; rw [e, ← hq]; exact HO.out))
      have EX : Hid ((exOut key info k).take n = expandL key info n) := expandL_at key info n k (by omega) (by omega)
      have hcap := YO.out.size.2
      have hnc : n ≤ cap8 := by omega
      have YF := Lib.hid (YO.out.first n (by omega))
      rw [EX.out] at YF
      clear hq
      go_wp2
      go_ret2
      exact ⟨_, rfl, YF.out, HB.out⟩

theorem carc_str' (s : ByteArray) : ((⟨#[99, 97, 114, 99, 97, 110, 101, 116, 32]⟩ : ByteArray) ++ s).data.toList = carc ++ s.data.toList := by
  simp [carc]

set_option maxHeartbeats 1000000 in
theorem refNamed_any (v0 : Value) (s : ByteArray) (key : List UInt8) (w : World) (h0 : BytesAt w v0 key) (hk : key.length ≤ 5000) (hs : s.size ≤ 4700) :
    Calls Tryz.prog 35 #[v0, .string s] w fun e w' => ∃ v', e = .returned v' ∧ BytesAt w' v' (namedL key s.data.toList) ∧ Below w.heap.size w w' := by
  have H0 := Lib.hid h0
  have CS := Lib.hid (carc_str' s)
  have HI : Hid ((carc ++ s.data.toList).length ≤ 4800) := by
    simp [Hid, carc]; omega
  have HD : Hid (expandL key (carc ++ s.data.toList) 32 = namedL key s.data.toList) := Lib.hid rfl
  obtain ⟨vs, w1, hr, y1, b1⟩ := conv_str w ((⟨#[99, 97, 114, 99, 97, 110, 101, 116, 32]⟩ : ByteArray) ++ s)
  rw [CS.out] at y1
  have Y1 := Lib.hid y1
  have B1 := Lib.hid b1
  clear h0 y1 b1
  go_enter Tryz.func35, Tryz.ntmps35
  go_wp2_with fail
  refine (refExpand_any v0 vs key _ 32 w1 (H0.out.below B1.out) Y1.out hk HI.out (by decide)).mono ?_
  rintro e w2 ⟨v4, rfl, y2, b2⟩
  rw [HD.out] at y2
  have B2 := Lib.hid (B1.out.trans (b2.mono B1.out.size))
  have Y2 := Lib.hid y2
  clear y2 b2 hr
  go_wp2
  go_ret
  exact ⟨_, rfl, Y2.out, B2.out⟩
end Go.Proofs.YtmnhpkdldeifgaaGreatDoor
