/- What the document's Tag of layer 7 answers. -/
import Derived.Test.YtmnhpkdldeifgaaGreatDoorGq
import Derived.Test.YtmnhpkdldeifgaaGreatDoorGl
namespace Go.Proofs.YtmnhpkdldeifgaaGreatDoor
set_option maxRecDepth 100000
open Go.RowKit

/-- Some of the bytes that are known, from a place on. -/
theorem bytes_part {w : World} {b off : Nat} {l : List UInt8} (hb : ∀ j c, l[j]? = some c → w.cell? ⟨b, off + j, none⟩ = some (.int .u8 (c.toNat : Int))) (a n c' : Nat) (hn : a + n ≤ l.length) (hc : n ≤ c') :
    BytesAt w (.slice (some ⟨b, off + a, none⟩) n c') ((l.drop a).take n) := by
  have hl : ((l.drop a).take n).length = n := by simp; omega
  refine ⟨_, c', by rw [hl], by rw [hl]; exact hc, fun _ => ⟨_, rfl, fun j c hj => ?_⟩⟩
  have ha : (⟨b, off + a, none⟩ : Addr).add j = ⟨b, off + a + j, none⟩ := by unfold Addr.add; split <;> simp_all
  have hjn : j < n := by rw [← hl]; exact (List.getElem?_eq_some_iff.1 hj).1
  rw [ha, Nat.add_assoc]
  apply hb
  simpa [List.getElem?_take, hjn, List.getElem?_drop] using hj
theorem kept_below2 {w w' : World} {B : Nat} {e : TypeId} {s : Nat} {v : Value} {n : Nat} {xs : List Value} (h : w.ownsRow B e s v n xs) (hb : Below w.heap.size w w') : w'.ownsRow B e s v n xs := kept_below h hb rfl
theorem refTag_bad (A : Option Addr) (n cap : Nat) (v : Value) (hn : n ≠ 32) (w : World) :
    Calls Tryz.prog 66 #[.slice A n cap, v] w fun e w' => e = .returned (.tuple #[.slice none 0 0, .int .i64 2]) ∧ Below w.heap.size w w' := by
  have d1 : ((n : Int) != 32) = true := by simp; omega
  have d2 : ¬ (n = 32) := hn
  go_enter Tryz.func66, Tryz.ntmps66
  go_wp2
  go_ret2
  exact ⟨rfl, Below.refl _ _⟩

theorem vt_split (l : List Nat) (m d : Nat) : ∃ Z, vt l (m + d) = vt l m + 256 ^ m * Z := by
  induction d with
  | zero => exact ⟨0, by simp⟩
  | succ d ih =>
    obtain ⟨Z, hZ⟩ := ih
    refine ⟨Z + 256 ^ d * l.getD (m + d) 0, ?_⟩
    show vt l (m + d) + 256 ^ (m + d) * l.getD (m + d) 0 = _
    rw [hZ, Nat.pow_add, Nat.mul_add, Nat.mul_assoc, Nat.add_assoc]
theorem tag_step (T K : List Nat) (k x y over s : Nat) (hx : x = T.getD k 0) (hy : y = K.getD k 0) (ho : over = (vt T k + vt K k) / 256 ^ k) (hs : s = over + x + y) :
    (vt T (k + 1) + vt K (k + 1)) / 256 ^ k = s ∧ (vt T (k + 1) + vt K (k + 1)) / 256 ^ (k + 1) = s / 256 := by
  have hp : 0 < 256 ^ k := Nat.pow_pos (by decide)
  have e : vt T (k + 1) + vt K (k + 1) = (vt T k + vt K k) + 256 ^ k * (x + y) := by
    rw [vt, vt, ← hx, ← hy, Nat.mul_add]
    omega
  have e1 : (vt T (k + 1) + vt K (k + 1)) / 256 ^ k = s := by
    rw [e, Nat.add_mul_div_left _ _ hp, ← ho]
    omega
  exact ⟨e1, by rw [Nat.pow_succ, ← Nat.div_div_eq_div_mul, e1]⟩
theorem tag_byte (T K : List Nat) (k : Nat) (hk : k < 16) : (vt T 17 + vt K 16) / 256 ^ k % 256 = (vt T (k + 1) + vt K (k + 1)) / 256 ^ k % 256 := by
  have hp : 0 < 256 ^ k := Nat.pow_pos (by decide)
  obtain ⟨Y, hY⟩ := vt_split T (k + 1) (17 - (k + 1))
  obtain ⟨Z, hZ⟩ := vt_split K (k + 1) (16 - (k + 1))
  rw [show k + 1 + (17 - (k + 1)) = 17 by omega] at hY
  rw [show k + 1 + (16 - (k + 1)) = 16 by omega] at hZ
  have e : vt T 17 + vt K 16 = (vt T (k + 1) + vt K (k + 1)) + 256 ^ k * (256 * (Y + Z)) := by
    rw [hY, hZ, Nat.pow_succ, ← Nat.mul_assoc, Nat.mul_add (256 ^ k * 256)]
    omega
  rw [e, Nat.add_mul_div_left _ _ hp]
  omega
/-- A block's number. -/
theorem chunk_vt (c : List UInt8) (h : c.length ≤ 16) : vt ((digL c).set c.length 1) 17 = chunkN c := by
  have hl : (digL c).length = 17 := by simp [digL, digTo]; omega
  have e := vt_set (digL c) c.length 1 17 (by omega) (by omega)
  have e0 : (digL c).getD c.length 0 = 0 := by
    rw [digL_at]
    simp [List.getD]
  rw [e0, digL_vt c 17 (by omega), Nat.mul_zero, Nat.mul_one, Nat.add_zero] at e
  exact e
/-- One block more. -/
theorem acc_step (R : Nat) (msg : List UInt8) (t V N K : Nat) (hV : V % pP = accN R msg t) (hN : N = chunkN ((msg.drop (16 * t)).take 16) + V) (hK : K % pP = N * R % pP) : K % pP = accN R msg (t + 1) := by
  rw [hK, accN, hN, ← hV, Nat.mul_mod, Nat.add_mod, Nat.mul_mod (V % pP + _), Nat.add_mod (V % pP), Nat.mod_mod, Nat.add_comm (chunkN _ % pP)]

set_option maxRecDepth 100000 in
set_option maxHeartbeats 4000000 in
theorem refTag_any (A0 A1 : Option Addr) (n cap0 cap1 : Nat) (key msg : List UInt8) (hn : n ≤ 1000000) (w : World) (h0 : BytesAt w (.slice A0 32 cap0) key) (h1 : BytesAt w (.slice A1 n cap1) msg) :
    Calls Tryz.prog 66 #[.slice A0 32 cap0, .slice A1 n cap1] w fun e w' => ∃ v', e = .returned (.tuple #[v', .int .i64 0]) ∧ BytesAt w' v' (tagL key msg) ∧ Below w.heap.size w w' := by
  have K0 := Lib.hid h0.size
  have M0 := Lib.hid h1.size
  have H1 := Lib.hid h1
  obtain ⟨kb, ko, rfl, hkb, kcell⟩ := h0.spots (by intro e; have := h0.size.1; rw [e] at this; simp at this)
  have KC := Lib.hid kcell
  have KB := Lib.hid hkb
  have CL := Lib.hid (clampL_length key (by have := K0.out.1; omega))
  have CC := Lib.hid (refClamp_any _ _ _ _ w h0)
  obtain ⟨R, hR⟩ : ∃ R, R = clampL key := ⟨_, rfl⟩
  rw [← hR] at CL CC
  have HR := Lib.hid hR
  have HN := Lib.hid hn
  clear h0 h1 hkb kcell hR hn
  go_enter Tryz.func66, Tryz.ntmps66
  go_wp2_with fail
  refine CC.out.mono ?_
  rintro e w2 ⟨v2, rfl, y2, b2⟩
  obtain ⟨A2, cp2, rfl, hcp2, -⟩ := id y2
  have B2 := Lib.hid b2
  have DD := Lib.hid (digits_any A2 R.length cp2 R (by rw [CL.out]; decide) w2 y2)
  clear y2 b2 CC hcp2
  go_wp2_with fail
  refine DD.out.mono ?_
  rintro e w3 ⟨gr, cr, rfl, o3, b3⟩
  have OR := Lib.hid o3
  have B3 := Lib.hid (B2.out.trans (b3.mono B2.out.size))
  have GR := Lib.hid ((o3.lt gr rfl).2)
  clear o3 b3 DD B2
  go_wp2_with (at_make; refine wpList_make_ints rfl _ _ rfl 17 rfl rfl (by decide) ?_)
  intro w4 o4 b4 z4
  have O4 : Hid (Ints w4 w3.heap.size (.slice (some ⟨w3.heap.size, 0, none⟩) 17 17) 17 (List.replicate 17 0)) := o4
  have B4 := Lib.hid b4
  clear o4 b4 z4
  have Z0 : Hid (∀ j, (List.replicate 17 0).getD j 0 = 0) := Lib.hid fun j => by simp only [List.getD, List.getElem?_replicate]; split <;> simp
  have ZV : Hid (vt (List.replicate 17 0) 17 = 0) := Lib.hid (vt_zeros (List.replicate 17 0) 0 17 fun i _ => Z0.out i)
  have RD : Hid (∀ i, (digL R).getD i 0 < 256) := Lib.hid (digL_lt R)
  have RV : Hid (vt (digL R) 17 = leNat R) := Lib.hid (digL_vt R 17 (by rw [CL.out]; decide))
  generalize digL R = DR at *
  go_wp2_with fail
  go_loopw [7, 8] (fun u i wr => ∃ (t a g cp : Nat) (T : List Nat), a = 16 * t ∧ t ≤ (n + 15) / 16 ∧ u = .slice (some ⟨g, 0, none⟩) 17 cp ∧ i = .int .i64 (a : Int) ∧ (∀ j, T.getD j 0 < 256) ∧ vt T 17 < 2 ^ 130 ∧ vt T 17 % pP = accN (leNat R) msg t ∧ Ints wr w3.heap.size (.slice (some ⟨g, 0, none⟩) 17 cp) 17 T ∧ Below w3.heap.size w3 wr) (fun _ i _ => n + 16 - (intOf i).toNat)
  case atStart => exact ⟨0, 0, w3.heap.size, 17, List.replicate 17 0, rfl, Nat.zero_le _, rfl, rfl, fun j => by rw [Z0.out]; decide, by rw [ZV.out]; decide, by rw [ZV.out]; rfl, O4.out, B4.out⟩
  case round =>
    obtain ⟨t, a, g, cp, T, ha, ht, rfl, rfl, hd, hlt, hv, ho, hb⟩ := hrel
    obtain ⟨wo, hwo⟩ : ∃ wo, wo = wr := ⟨_, rfl⟩
    subst hwo
    have HA := Lib.hid (And.intro ha ht)
    have HO := Lib.hid ho
    have HB := Lib.hid hb
    have HD := Lib.hid hd
    have HV := Lib.hid (And.intro hlt hv)
    have GLT := Lib.hid ((ho.lt g rfl).2)
    clear ha ht ho hb hd hlt hv O4 B4 Z0 ZV
    by_cases hlt : a < n
    · have da : decide ((a : Int) < (n : Int)) = true := by simp; omega
      obtain ⟨b1, off1, rfl, hb1, mcell⟩ := H1.out.spots (by intro e; have := M0.out.1; rw [e] at this; simp at this; omega)
      obtain ⟨m, hm⟩ : ∃ m, m = min 16 (n - a) := ⟨_, rfl⟩
      have BM := bytes_part (w := wo) (fun j c hj => (HB.out.cell (p := ⟨b1, off1 + j, none⟩) (Nat.lt_of_lt_of_le hb1 B3.out.size)).trans ((B3.out.cell (p := ⟨b1, off1 + j, none⟩) hb1).trans (mcell j c hj))) a m (cap1 - a) (by have := M0.out; omega) (by have := M0.out; omega)
      obtain ⟨e16, he16⟩ : ∃ e16, e16 = a + 16 := ⟨_, rfl⟩
      have a16 : IntKind.i64.wrap ((a : Int) + 16) = (e16 : Int) := by have := HN.out; rw [IntWalk.i64_in _ (by omega)]; omega
      have hm16 : m ≤ 16 := by omega
      have CQ : Hid ((msg.drop a).take m = (msg.drop (16 * t)).take 16) := by
        rw [Hid, ← HA.out.1]
        have hl : (msg.drop a).length = n - a := by simp; have := M0.out.1; omega
        rcases Nat.lt_or_ge (n - a) 16 with h | h
        · rw [List.take_of_length_le (by omega), List.take_of_length_le (by omega)]
        · rw [show m = 16 by omega]
      have cl : ((msg.drop a).take m).length = m := by simp; have := M0.out.1; omega
      obtain ⟨c, hc⟩ : ∃ c, c = (msg.drop a).take m := ⟨_, rfl⟩
      rw [← hc] at BM CQ cl
      have DD := Lib.hid (digits_any _ m (cap1 - a) c (by omega) wo BM)
      have LD : Hid ((digL c).length = 17) := Lib.hid (by simp [digL, digTo]; omega)
      have DV := Lib.hid (chunk_vt c (by omega))
      have DL : Hid (∀ i, ((digL c).set m 1).getD i 0 < 256) := Lib.hid fun i => by
        rw [getD_set _ _ _ _ (by rw [LD.out]; omega)]
        split
        · decide
        · exact digL_lt c i
      rw [cl] at DV
      have HM := Lib.hid hm
      have jm : (m : Int) < 17 := by omega
      have M17 : Hid (m < 17) := Lib.hid (by omega)
      clear BM hb1 mcell hc cl hm
      generalize digL c = DC at *
      by_cases hen : n < e16
      · have de : decide ((n : Int) < (e16 : Int)) = true := by simp; omega
        have k1 : a ≤ cap1 := by have := M0.out; omega
        have k2 : n ≤ cap1 := by have := M0.out; omega
        have k3 : a ≤ n := by omega
        have k4 : n - a = m := by have := HM.out; omega
        have k5 : IntKind.i64.wrap ((n : Int) - (a : Int)) = (m : Int) := by have := HN.out; rw [IntWalk.i64_in _ (by omega)]; omega
        have k6 : cap1 ≠ a := by have := M0.out; omega
        have HE16 := Lib.hid he16
        clear he16
        go_wp2_with fail
        refine DD.out.mono ?_
        rintro e w5 ⟨gk, ck, rfl, o5, b5⟩
        have O5 := Lib.hid o5
        have N5 := Lib.hid (kept_below HO.out b5 rfl)
        have B5 := Lib.hid (HB.out.trans (b5.mono HB.out.size))
        have W5 := Lib.hid HB.out.size
        clear o5 b5 DD HO HB k1 k2 k3 k4 k6
        go_wp2_with (refine wpList_put_int rfl _ _ rfl wo.heap.size gk m 17 ck rfl 1 rfl DC O5.out M17.out ?_)
        intro w6 g6 o6 z6
        have O6 := Lib.hid o6
        have GK : Hid (wo.heap.size ≤ gk ∧ g < wo.heap.size) := Lib.hid ⟨(O5.out.lt gk rfl).1, GLT.out⟩
        have N6 := Lib.hid (N5.out.kept g6 (.inr (by have := GK.out; simp [Value.ownBlock]; omega)))
        have B6 := Lib.hid (B5.out.grown g6 B5.out.size (fun k hk => by have := GK.out; have := W5.out; injection hk; omega))
        clear g6 o6 z6 O5 N5 B5 k5
        generalize hDK : DC.set m 1 = DK at *
        have LK : Hid (DK.length = 17) := by rw [Hid, ← hDK, List.length_set]; exact LD.out
        have HK := Lib.hid hDK
        clear hDK
        go_wp2_with fail
        go_loopw [11] (fun i wi => ∃ (q : Nat) (T2 : List Nat), q ≤ 17 ∧ i = .int .i64 (q : Int) ∧ (∀ j, T2.getD j 0 = DK.getD j 0 + if j < q then T.getD j 0 else 0) ∧ vt T2 17 = chunkN c + vt T q ∧ Ints wi wo.heap.size (.slice (some ⟨gk, 0, none⟩) 17 ck) 17 T2 ∧ Ints wi w3.heap.size (.slice (some ⟨g, 0, none⟩) 17 cp) 17 T ∧ Below w3.heap.size w3 wi) (fun i _ => 17 - (intOf i).toNat)
        case atStart => exact ⟨0, DK, by decide, rfl, fun j => by simp, by rw [vt, Nat.add_zero]; exact DV.out, O6.out, N6.out, B6.out⟩
        case round =>
          obtain ⟨q, T2, hq, rfl, hT2, hv2, ho, hn, hb⟩ := hrel
          have HO := Lib.hid ho
          have HN2 := Lib.hid hn
          have HB := Lib.hid hb
          have HT2 := Lib.hid hT2
          have HV2 := Lib.hid hv2
          have L2 := Lib.hid ho.len
          have LT := Lib.hid hn.len
          clear ho hn hb hT2 hv2 O6 N6 B6
          by_cases hq17 : q < 17
          · have dq : decide ((q : Int) < 17) = true := by simp; omega
            have jq : (q : Int) < 17 := by omega
            obtain ⟨x, hx⟩ : ∃ x, x = T2.getD q 0 := ⟨_, rfl⟩
            obtain ⟨y, hy⟩ : ∃ y, y = T.getD q 0 := ⟨_, rfl⟩
            have CX := Lib.hid (HO.out.cell q x (by rw [hx, List.getD, List.getElem?_eq_getElem (by rw [L2.out]; exact hq17)]; rfl))
            have CY := Lib.hid (HN2.out.cell q y (by rw [hy, List.getD, List.getElem?_eq_getElem (by rw [LT.out]; exact hq17)]; rfl))
            have xb : x < 256 := by
              rw [hx, HT2.out, if_neg (by omega), Nat.add_zero]
              exact DL.out q
            have yb : y < 256 := by rw [hy]; exact HD.out q
            obtain ⟨s, hs⟩ : ∃ s, s = x + y := ⟨_, rfl⟩
            have ts : IntKind.i64.wrap ((x : Int) + (y : Int)) = (s : Int) := by rw [IntWalk.i64_in _ (by omega)]; omega
            have HS : Hid (vt (T2.set q s) 17 = chunkN c + vt T (q + 1)) := by
              have e := vt_add T2 q y 17 (by rw [L2.out]; exact hq17) hq17
              have e2 : vt T (q + 1) = vt T q + 256 ^ q * y := by rw [hy]; rfl
              rw [Hid, hs, hx, e, e2, HV2.out]
              exact Nat.add_assoc _ _ _
            have HT3 : Hid (∀ j, (T2.set q s).getD j 0 = DK.getD j 0 + if j < q + 1 then T.getD j 0 else 0) := Lib.hid fun j => by
              rw [getD_set _ _ _ _ (by rw [L2.out]; exact hq17)]
              by_cases e : q = j
              · subst e
                rw [if_pos rfl, if_pos (by omega), hs, hx, hy, HT2.out, if_neg (by omega), Nat.add_zero]
              · rw [if_neg e, HT2.out]
                by_cases e2 : j < q
                · rw [if_pos e2, if_pos (by omega)]
                · rw [if_neg e2, if_neg (by omega)]
            have HQ := Lib.hid hq17
            clear hx hy xb yb hs
            go_wp2_with fail
            refine still_tail 12 (by kernel_rfl) (by kernel_rfl) fun wt ht bt => ?_
            simp only [List.take_succ_cons, List.take_zero, List.drop_succ_cons, List.drop_zero]
            have cx := (World.cell?_of_block (a := ⟨gk, q, none⟩) (by rw [ht])).trans CX.out
            have cy := (World.cell?_of_block (a := ⟨g, q, none⟩) (by rw [ht])).trans CY.out
            repeat still_step
            refine wpStill_nil ?_
            have Ot := Lib.hid (kept_below HO.out bt rfl)
            have Nt := Lib.hid (kept_below HN2.out bt rfl)
            have Bt := Lib.hid (HB.out.trans (bt.mono HB.out.size))
            clear cx cy ht bt CX CY HO HN2 HB
            refine wpList_put_int rfl _ _ rfl wo.heap.size gk q 17 ck rfl s rfl T2 Ot.out HQ.out ?_
            intro wu gu ou zu
            have Ou := Lib.hid ou
            have Nu := Lib.hid (Nt.out.kept gu (.inr (by have := GK.out; simp [Value.ownBlock]; omega)))
            have Bu := Lib.hid (Bt.out.grown gu Bt.out.size (fun k hk => by have := GK.out; have := W5.out; injection hk; omega))
            clear gu ou zu Ot Nt Bt ts
            refine wpList_nil ?_
            go_wp2_with fail
            exact ⟨⟨q + 1, _, by omega, by go_num, HT3.out, HS.out, Ou.out, Nu.out, Bu.out⟩, by simp [intOf]; omega⟩
          · obtain rfl : q = 17 := by omega
            have TT := Lib.hid (times_any wo.heap.size w2.heap.size gk gr ck cr T2 DR (fun i => by
              have e := HT2.out i
              have e1 := DL.out i
              have e2 := HD.out i
              rw [e]
              split <;> omega) RD.out wr HO.out (kept_below2 OR.out HB.out))
            rw [HV2.out, RV.out] at TT
            clear HT2 HV2 HO HN2
            go_wp2_with fail
            refine TT.out.mono ?_
            rintro e w7 ⟨g7, c7, T7, rfl, o7, d7, l7, v7, b7⟩
            have O7 := Lib.hid (own_less o7 HB.out.size)
            have B7 := Lib.hid (HB.out.trans (b7.mono HB.out.size))
            have D7 := Lib.hid d7
            have L7 := Lib.hid l7
            have V7 : Hid (vt T7 17 % pP = accN (leNat R) msg (t + 1)) := by
              refine Lib.hid (acc_step (leNat R) msg t (vt T 17) (chunkN c + vt T 17) (vt T7 17) HV.out.2 ?_ v7)
              rw [CQ.out]
            have HAn : Hid (e16 = 16 * (t + 1) ∧ t + 1 ≤ (n + 15) / 16) := Lib.hid (by have := HA.out; have := HE16.out; omega)
            have AX := Lib.hid (And.intro hlt HE16.out)
            clear o7 b7 d7 l7 v7 TT HB
            go_wp2_with fail
            exact ⟨⟨t + 1, e16, g7, c7, T7, HAn.out.1, HAn.out.2, rfl, by have := AX.out; exact congrArg (Value.int .i64) (by omega), D7.out, L7.out, V7.out, O7.out, B7.out⟩, by have := AX.out; simp [intOf]; omega⟩
      · have de : decide ((n : Int) < (e16 : Int)) = false := by simp; omega
        have k1 : a ≤ cap1 := by have := M0.out; omega
        have k2 : e16 ≤ cap1 := by have := M0.out; omega
        have k3 : a ≤ e16 := by omega
        have k4 : e16 - a = m := by have := HM.out; omega
        have k5 : IntKind.i64.wrap ((e16 : Int) - (a : Int)) = (m : Int) := by have := HN.out; rw [IntWalk.i64_in _ (by omega)]; omega
        have k6 : cap1 ≠ a := by have := M0.out; omega
        have HE16 := Lib.hid he16
        clear he16
        go_wp2_with fail
        refine DD.out.mono ?_
        rintro e w5 ⟨gk, ck, rfl, o5, b5⟩
        have O5 := Lib.hid o5
        have N5 := Lib.hid (kept_below HO.out b5 rfl)
        have B5 := Lib.hid (HB.out.trans (b5.mono HB.out.size))
        have W5 := Lib.hid HB.out.size
        clear o5 b5 DD HO HB k1 k2 k3 k4 k6
        go_wp2_with (refine wpList_put_int rfl _ _ rfl wo.heap.size gk m 17 ck rfl 1 rfl DC O5.out M17.out ?_)
        intro w6 g6 o6 z6
        have O6 := Lib.hid o6
        have GK : Hid (wo.heap.size ≤ gk ∧ g < wo.heap.size) := Lib.hid ⟨(O5.out.lt gk rfl).1, GLT.out⟩
        have N6 := Lib.hid (N5.out.kept g6 (.inr (by have := GK.out; simp [Value.ownBlock]; omega)))
        have B6 := Lib.hid (B5.out.grown g6 B5.out.size (fun k hk => by have := GK.out; have := W5.out; injection hk; omega))
        clear g6 o6 z6 O5 N5 B5 k5
        generalize hDK : DC.set m 1 = DK at *
        have LK : Hid (DK.length = 17) := by rw [Hid, ← hDK, List.length_set]; exact LD.out
        have HK := Lib.hid hDK
        clear hDK
        go_wp2_with fail
        go_loopw [11] (fun i wi => ∃ (q : Nat) (T2 : List Nat), q ≤ 17 ∧ i = .int .i64 (q : Int) ∧ (∀ j, T2.getD j 0 = DK.getD j 0 + if j < q then T.getD j 0 else 0) ∧ vt T2 17 = chunkN c + vt T q ∧ Ints wi wo.heap.size (.slice (some ⟨gk, 0, none⟩) 17 ck) 17 T2 ∧ Ints wi w3.heap.size (.slice (some ⟨g, 0, none⟩) 17 cp) 17 T ∧ Below w3.heap.size w3 wi) (fun i _ => 17 - (intOf i).toNat)
        case atStart => exact ⟨0, DK, by decide, rfl, fun j => by simp, by rw [vt, Nat.add_zero]; exact DV.out, O6.out, N6.out, B6.out⟩
        case round =>
          obtain ⟨q, T2, hq, rfl, hT2, hv2, ho, hn, hb⟩ := hrel
          have HO := Lib.hid ho
          have HN2 := Lib.hid hn
          have HB := Lib.hid hb
          have HT2 := Lib.hid hT2
          have HV2 := Lib.hid hv2
          have L2 := Lib.hid ho.len
          have LT := Lib.hid hn.len
          clear ho hn hb hT2 hv2 O6 N6 B6
          by_cases hq17 : q < 17
          · have dq : decide ((q : Int) < 17) = true := by simp; omega
            have jq : (q : Int) < 17 := by omega
            obtain ⟨x, hx⟩ : ∃ x, x = T2.getD q 0 := ⟨_, rfl⟩
            obtain ⟨y, hy⟩ : ∃ y, y = T.getD q 0 := ⟨_, rfl⟩
            have CX := Lib.hid (HO.out.cell q x (by rw [hx, List.getD, List.getElem?_eq_getElem (by rw [L2.out]; exact hq17)]; rfl))
            have CY := Lib.hid (HN2.out.cell q y (by rw [hy, List.getD, List.getElem?_eq_getElem (by rw [LT.out]; exact hq17)]; rfl))
            have xb : x < 256 := by
              rw [hx, HT2.out, if_neg (by omega), Nat.add_zero]
              exact DL.out q
            have yb : y < 256 := by rw [hy]; exact HD.out q
            obtain ⟨s, hs⟩ : ∃ s, s = x + y := ⟨_, rfl⟩
            have ts : IntKind.i64.wrap ((x : Int) + (y : Int)) = (s : Int) := by rw [IntWalk.i64_in _ (by omega)]; omega
            have HS : Hid (vt (T2.set q s) 17 = chunkN c + vt T (q + 1)) := by
              have e := vt_add T2 q y 17 (by rw [L2.out]; exact hq17) hq17
              have e2 : vt T (q + 1) = vt T q + 256 ^ q * y := by rw [hy]; rfl
              rw [Hid, hs, hx, e, e2, HV2.out]
              exact Nat.add_assoc _ _ _
            have HT3 : Hid (∀ j, (T2.set q s).getD j 0 = DK.getD j 0 + if j < q + 1 then T.getD j 0 else 0) := Lib.hid fun j => by
              rw [getD_set _ _ _ _ (by rw [L2.out]; exact hq17)]
              by_cases e : q = j
              · subst e
                rw [if_pos rfl, if_pos (by omega), hs, hx, hy, HT2.out, if_neg (by omega), Nat.add_zero]
              · rw [if_neg e, HT2.out]
                by_cases e2 : j < q
                · rw [if_pos e2, if_pos (by omega)]
                · rw [if_neg e2, if_neg (by omega)]
            have HQ := Lib.hid hq17
            clear hx hy xb yb hs
            go_wp2_with fail
            refine still_tail 12 (by kernel_rfl) (by kernel_rfl) fun wt ht bt => ?_
            simp only [List.take_succ_cons, List.take_zero, List.drop_succ_cons, List.drop_zero]
            have cx := (World.cell?_of_block (a := ⟨gk, q, none⟩) (by rw [ht])).trans CX.out
            have cy := (World.cell?_of_block (a := ⟨g, q, none⟩) (by rw [ht])).trans CY.out
            repeat still_step
            refine wpStill_nil ?_
            have Ot := Lib.hid (kept_below HO.out bt rfl)
            have Nt := Lib.hid (kept_below HN2.out bt rfl)
            have Bt := Lib.hid (HB.out.trans (bt.mono HB.out.size))
            clear cx cy ht bt CX CY HO HN2 HB
            refine wpList_put_int rfl _ _ rfl wo.heap.size gk q 17 ck rfl s rfl T2 Ot.out HQ.out ?_
            intro wu gu ou zu
            have Ou := Lib.hid ou
            have Nu := Lib.hid (Nt.out.kept gu (.inr (by have := GK.out; simp [Value.ownBlock]; omega)))
            have Bu := Lib.hid (Bt.out.grown gu Bt.out.size (fun k hk => by have := GK.out; have := W5.out; injection hk; omega))
            clear gu ou zu Ot Nt Bt ts
            refine wpList_nil ?_
            go_wp2_with fail
            exact ⟨⟨q + 1, _, by omega, by go_num, HT3.out, HS.out, Ou.out, Nu.out, Bu.out⟩, by simp [intOf]; omega⟩
          · obtain rfl : q = 17 := by omega
            have TT := Lib.hid (times_any wo.heap.size w2.heap.size gk gr ck cr T2 DR (fun i => by
              have e := HT2.out i
              have e1 := DL.out i
              have e2 := HD.out i
              rw [e]
              split <;> omega) RD.out wr HO.out (kept_below2 OR.out HB.out))
            rw [HV2.out, RV.out] at TT
            clear HT2 HV2 HO HN2
            go_wp2_with fail
            refine TT.out.mono ?_
            rintro e w7 ⟨g7, c7, T7, rfl, o7, d7, l7, v7, b7⟩
            have O7 := Lib.hid (own_less o7 HB.out.size)
            have B7 := Lib.hid (HB.out.trans (b7.mono HB.out.size))
            have D7 := Lib.hid d7
            have L7 := Lib.hid l7
            have V7 : Hid (vt T7 17 % pP = accN (leNat R) msg (t + 1)) := by
              refine Lib.hid (acc_step (leNat R) msg t (vt T 17) (chunkN c + vt T 17) (vt T7 17) HV.out.2 ?_ v7)
              rw [CQ.out]
            have HAn : Hid (e16 = 16 * (t + 1) ∧ t + 1 ≤ (n + 15) / 16) := Lib.hid (by have := HA.out; have := HE16.out; omega)
            have AX := Lib.hid (And.intro hlt HE16.out)
            clear o7 b7 d7 l7 v7 TT HB
            go_wp2_with fail
            exact ⟨⟨t + 1, e16, g7, c7, T7, HAn.out.1, HAn.out.2, rfl, by have := AX.out; exact congrArg (Value.int .i64) (by omega), D7.out, L7.out, V7.out, O7.out, B7.out⟩, by have := AX.out; simp [intOf]; omega⟩
    · obtain rfl : t = (n + 15) / 16 := by have := HA.out; omega
      have da : decide ((a : Int) < (n : Int)) = false := by simp; omega
      have L1 := Lib.hid (least_any w3.heap.size g cp T HD.out HV.out.1 wo HO.out)
      clear HO
      go_wp2_with fail
      refine L1.out.mono ?_
      rintro e w5 ⟨g5, c5, T5, B5, rfl, o5, d5, v5, b5⟩
      have q5 : vt T5 17 < 2 ^ 130 := by rw [v5]; exact Nat.lt_trans (Nat.mod_lt _ (by decide)) (by decide)
      have L2 := Lib.hid (least_any B5 g5 c5 T5 d5 q5 w5 o5)
      have HB5 := Lib.hid (HB.out.trans (b5.mono HB.out.size))
      rw [v5, Nat.mod_mod, HV.out.2] at L2
      clear o5 d5 v5 b5 q5 L1 HB
      go_wp2_with fail
      refine L2.out.mono ?_
      rintro e w6 ⟨g6, c6, T6, B6, rfl, o6, d6, v6, b6⟩
      have O6 := Lib.hid o6
      have D6 := Lib.hid d6
      have LT6 := Lib.hid o6.len
      have G6 := Lib.hid ((o6.lt g6 rfl).2)
      have HB6 : Hid (Below w.heap.size w w6) := by
        have q := HB5.out.trans (b6.mono HB5.out.size)
        exact Lib.hid (B3.out.trans (q.mono B3.out.size))
      have LK : Hid (((key.drop 16).map (·.toNat)).length = 16) := Lib.hid (by simp; have := K0.out.1; omega)
      have HT : Hid (∀ k, k < 16 → (tagL key msg)[k]? = some (UInt8.ofNat ((vt T6 (k + 1) + vt ((key.drop 16).map (·.toNat)) (k + 1)) / 256 ^ k % 256))) := Lib.hid fun k hk => by
        have e0 : leNat ((key.drop 16).take 16) = vt ((key.drop 16).map (·.toNat)) 16 := by
          have q : (key.drop 16).length = 16 := by simp; have := K0.out.1; omega
          rw [leNat, List.take_of_length_le (by omega), q]
        have e1 : tagN key msg = vt T6 17 + vt ((key.drop 16).map (·.toNat)) 16 := by
          rw [tagN, v6, e0, ← HR.out, ← M0.out.1]
        have e2 := tag_byte T6 ((key.drop 16).map (·.toNat)) k hk
        rw [← e1] at e2
        simp only [tagL, List.getElem?_map, List.getElem?_range hk, Option.map_some]
        rw [← e2]
        congr 1
        apply UInt8.toNat_inj.1
        simp
      have LG := Lib.hid (tagL_length key msg)
      obtain ⟨G, hG⟩ : ∃ G, G = tagL key msg := ⟨_, rfl⟩
      rw [← hG] at HT LG
      have HGe := Lib.hid hG
      have KR : ∀ k, k < 16 → Hid (((key.drop 16).map (·.toNat)).getD k 0 < 256 ∧ ∀ W, Below w6.heap.size w6 W → W.cell? ⟨kb, ko + (16 + k), none⟩ = some (.int .u8 ((((key.drop 16).map (·.toNat)).getD k 0 : Nat) : Int))) := fun k hk => by
        obtain ⟨y, hy⟩ : ∃ y, key[16 + k]? = some y := ⟨_, List.getElem?_eq_getElem (by have := K0.out.1; omega)⟩
        have e : ((key.drop 16).map (·.toNat)).getD k 0 = y.toNat := by simp [List.getD, List.getElem?_drop, hy]
        rw [e]
        exact Lib.hid ⟨y.toNat_lt, fun W hW => (hW.cell (p := ⟨kb, ko + (16 + k), none⟩) (Nat.lt_of_lt_of_le KB.out HB6.out.size)).trans ((HB6.out.cell (p := ⟨kb, ko + (16 + k), none⟩) KB.out).trans (KC.out (16 + k) y hy))⟩
      generalize (key.drop 16).map (·.toNat) = KN at *
      clear o6 d6 v6 b6 L2 hG HB5 HV HD
      go_wp2_with (at_make; refine wpList_make_row rfl _ _ rfl 16 rfl rfl (by decide) ?_)
      intro w7 o7 b7 z7
      have O7 : Hid (w7.ownsRow w6.heap.size 5 1 (.slice (some ⟨w6.heap.size, 0, none⟩) 16 16) 16 (bv (doneTo G 16 0))) := by
        rw [Hid, doneTo_zero]
        exact o7
      have B7 := Lib.hid b7
      clear o7 b7 z7
      go_wp2_with fail
      go_loopw [13, 14] (fun u i wi => ∃ (k over : Nat), k ≤ 16 ∧ u = .int .i64 (over : Int) ∧ i = .int .i64 (k : Int) ∧ over = (vt T6 k + vt KN k) / 256 ^ k ∧ over < 600 ∧ wi.ownsRow w6.heap.size 5 1 (.slice (some ⟨w6.heap.size, 0, none⟩) 16 16) 16 (bv (doneTo G 16 k)) ∧ Below w6.heap.size w6 wi) (fun _ i _ => 16 - (intOf i).toNat)
      case atStart => exact ⟨0, 0, by decide, rfl, rfl, by simp [vt], by decide, O7.out, B7.out⟩
      case round =>
        obtain ⟨k, over, hk, rfl, rfl, hov, hob, ho, hb⟩ := hrel
        have HO := Lib.hid ho
        have HB := Lib.hid hb
        clear ho hb O7 B7
        by_cases hk16 : k < 16
        · have dk : decide ((k : Int) < 16) = true := by simp; omega
          obtain ⟨x, hx⟩ : ∃ x, x = T6.getD k 0 := ⟨_, rfl⟩
          obtain ⟨y, hy⟩ : ∃ y, y = KN.getD k 0 := ⟨_, rfl⟩
          have xb := D6.out k
          have yb := (KR k hk16).out.1
          have CY := Lib.hid ((KR k hk16).out.2 wr HB.out)
          have CX := Lib.hid ((HB.out.cell (p := ⟨g6, k, none⟩) G6.out).trans (O6.out.cell k x (by rw [hx, List.getD, List.getElem?_eq_getElem (by rw [LT6.out]; omega)]; rfl)))
          rw [← hx] at xb
          rw [← hy] at yb CY
          obtain ⟨j, hj⟩ : ∃ j, j = 16 + k := ⟨_, rfl⟩
          rw [← hj] at CY
          obtain ⟨s1, hs1⟩ : ∃ s1, s1 = over + x := ⟨_, rfl⟩
          obtain ⟨s, hs⟩ : ∃ s, s = s1 + y := ⟨_, rfl⟩
          obtain ⟨q, hq⟩ : ∃ q, q = s / 256 := ⟨_, rfl⟩
          obtain ⟨r, hr⟩ : ∃ r, r = s % 256 := ⟨_, rfl⟩
          have TS := tag_step T6 KN k x y over s hx hy hov (by omega)
          have HS := HT.out k hk16
          rw [TS.1, ← hr] at HS
          have HP := Lib.hid (doneTo_put G 16 k _ LG.out HS)
          have LD := Lib.hid (doneTo_length G 16 k LG.out hk)
          have HQ : Hid (q = (vt T6 (k + 1) + vt KN (k + 1)) / 256 ^ (k + 1) ∧ q < 600 ∧ k < 16) := Lib.hid ⟨by rw [TS.2, hq], by omega, hk16⟩
          have tj : IntKind.i64.wrap (16 + (k : Int)) = (j : Int) := by rw [IntWalk.i64_in _ (by omega)]; omega
          have t1 : IntKind.i64.wrap ((over : Int) + (x : Int)) = (s1 : Int) := by rw [IntWalk.i64_in _ (by omega)]; omega
          have t2 : IntKind.i64.wrap ((s1 : Int) + (y : Int)) = (s : Int) := by rw [IntWalk.i64_in _ (by omega)]; omega
          have t3 : IntKind.i64.wrap ((s : Int) / 256) = (q : Int) := by rw [IntWalk.i64_in _ (by omega)]; omega
          have t4 : (s : Int).tmod 256 = (r : Int) := by rw [Int.tmod_eq_emod_of_nonneg (by omega)]; omega
          have t5 : (s : Int) % 256 = (r : Int) := by omega
          have ty : IntKind.i64.wrap (y : Int) = (y : Int) := by rw [IntWalk.i64_in _ (by omega)]
          have R256 : Hid (r < 256) := Lib.hid (by omega)
          have jj : (j : Int) < 32 := by omega
          have jk : (k : Int) < 17 := by omega
          have jk2 : (k : Int) < 16 := by omega
          clear hx hy hs hs1 hq hr TS HS xb yb hj hov hob
          go_wp2_with fail
          refine still_all (by kernel_rfl) (by kernel_rfl) fun wt ht bt => ?_
          have cx := (World.cell?_of_block (a := ⟨g6, k, none⟩) (by rw [ht])).trans CX.out
          have cy := (World.cell?_of_block (a := ⟨kb, ko + j, none⟩) (by rw [ht])).trans CY.out
          repeat still_step
          refine wpStill_nil ?_
          have Ot := Lib.hid (kept_below HO.out bt rfl)
          have Bt := Lib.hid (HB.out.trans (bt.mono HB.out.size))
          clear cx cy ht bt CX CY HO HB t1 t2 tj ty jj jk
          go_wp2_with (with_reducible refine wpList_put_own rfl _ _ rfl w6.heap.size w6.heap.size k 16 16 ?hx (UInt8.ofNat r) ?hy _ LD.out Ot.out ?hi ?_)
          case hx => exact rfl
          case hy =>
            refine congrArg (Value.int .u8) (?_ : _ = (((UInt8.ofNat r).toNat : Nat) : Int))
            have r256 := R256.out
            rw [UInt8.toNat_ofNat']
            first | omega | (rw [IntWalk.u8_in _ (by omega)]; omega)
          case hi => exact HQ.out.2.2
          intro wu gu ou zu
          rw [HP.out] at ou
          have Ou := Lib.hid ou
          have Bu := Lib.hid (Bt.out.grown gu Bt.out.size (fun k hk => by injection hk; omega))
          clear gu ou zu Ot Bt t4 t5
          go_wp2_with fail
          exact ⟨⟨k + 1, q, by omega, rfl, by go_num, HQ.out.1, HQ.out.2.1, Ou.out, Bu.out⟩, by simp [intOf]; omega⟩
        · obtain rfl : k = 16 := by omega
          have HY : Hid (BytesAt wr (.slice (some ⟨w6.heap.size, 0, none⟩) 16 16) (tagL key msg)) := by
            have q := HO.out
            rw [doneTo_all _ _ LG.out] at q
            rw [← HGe.out]
            exact Lib.hid (BytesAt.of_own (base := w6.heap.size) (by rw [LG.out]; exact q))
          have HBw := Lib.hid (HB6.out.trans (HB.out.mono HB6.out.size))
          clear HO
          go_wp2
          go_ret2
          exact ⟨_, rfl, HY.out, HBw.out⟩
end Go.Proofs.YtmnhpkdldeifgaaGreatDoor
