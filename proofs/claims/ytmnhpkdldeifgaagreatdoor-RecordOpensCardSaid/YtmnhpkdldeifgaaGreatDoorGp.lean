/- What the document's folded of layer 7 answers. What the document's times of layer 7 answers. -/
import Derived.Test.YtmnhpkdldeifgaaGreatDoorGo
namespace Go.Proofs.YtmnhpkdldeifgaaGreatDoor
set_option maxRecDepth 100000
open Go.RowKit

/-- What is left of the lowest 130 bits. -/
def loN (l : List Nat) : Nat := vt l 16 + 256 ^ 16 * (l.getD 16 0 % 4)
theorem loN_lt (l : List Nat) (hd : ∀ i, l.getD i 0 < 256) : loN l < 2 ^ 130 := by
  have h := vt_lt l 16 hd
  rw [loN]
  omega
/-- One digit more, high up. -/
theorem fold_step (l : List Nat) (i t lo hi d : Nat) (ht : i = 17 + t) (hd : d = l.getD i 0) (h : lo + 2 ^ 130 * hi = vt l i) : lo + 2 ^ 130 * (hi + 64 * (256 ^ t * d)) = vt l (i + 1) := by
  have e : vt l (i + 1) = vt l i + 256 ^ i * d := by rw [hd]; rfl
  have e2 : 256 ^ i * d = 256 ^ 17 * (256 ^ t * d) := by rw [ht, Nat.pow_add, Nat.mul_assoc]
  rw [e, e2, ← h]
  generalize 256 ^ t * d = P
  omega
theorem fold_first (l : List Nat) (h : Nat) (hh : h = l.getD 16 0 / 4) : loN l + 2 ^ 130 * h = vt l 17 := by
  have e : vt l 17 = vt l 16 + 256 ^ 16 * l.getD 16 0 := rfl
  rw [e, loN]
  omega
theorem fold_end (l : List Nat) (n v hi : Nat) (hd : ∀ i, l.getD i 0 < 256) (h : loN l + 2 ^ 130 * hi = vt l n) (hv : v = loN l + 5 * hi) : v = fold5 (vt l n) := by
  have := loN_lt l hd
  rw [fold5, ← h, hv]
  omega
theorem vt_add (l : List Nat) (i a m : Nat) (hl : i < l.length) (hm : i < m) : vt (l.set i (l.getD i 0 + a)) m = vt l m + 256 ^ i * a := by
  have h := vt_set l i (l.getD i 0 + a) m hl hm
  rw [Nat.mul_add] at h
  omega

set_option maxRecDepth 100000 in
set_option maxHeartbeats 2000000 in
theorem folded_any (B0 g0 n cap : Nat) (l : List Nat) (hn17 : 17 ≤ n) (hn : n ≤ 41) (hd : ∀ i, l.getD i 0 < 256) (w : World) (h : Ints w B0 (.slice (some ⟨g0, 0, none⟩) n cap) n l) :
    Calls Tryz.prog 96 #[.slice (some ⟨g0, 0, none⟩) n cap] w fun e w' => ∃ g c' T, e = .returned (.slice (some ⟨g, 0, none⟩) 24 c') ∧ Ints w' w.heap.size (.slice (some ⟨g, 0, none⟩) 24 c') 24 T ∧ (∀ i, T.getD i 0 < 2 ^ 31) ∧ vt T 24 = fold5 (vt l n) ∧ Below w.heap.size w w' := by
  have H := Lib.hid h
  have HL := Lib.hid h.len
  have HG : Hid (g0 < w.heap.size) := Lib.hid ((h.lt g0 rfl).2)
  have HD := Lib.hid hd
  have HN := Lib.hid (And.intro hn17 hn)
  have rd : ∀ i, i < n → Hid (∀ W, Below w.heap.size w W → W.cell? ⟨g0, i, none⟩ = some (.int .i64 ((l.getD i 0 : Nat) : Int))) := fun i hi => Lib.hid fun W hW =>
    (hW.cell (p := ⟨g0, i, none⟩) HG.out).trans (h.cell i _ (by rw [List.getD, List.getElem?_eq_getElem (by rw [HL.out]; exact hi)]; rfl))
  clear h hd
  go_enter Tryz.func96, Tryz.ntmps96
  go_wp2_with (at_make; refine wpList_make_ints rfl _ _ rfl 24 rfl rfl (by decide) ?_)
  intro w1 o1 b1 z1
  have O1 : Hid (Ints w1 w.heap.size (.slice (some ⟨w.heap.size, 0, none⟩) 24 24) 24 (List.replicate 24 0)) := o1
  have B1 := Lib.hid b1
  clear o1 b1 z1
  go_wp2_with fail
  go_loopw [4] (fun i wr => ∃ (k : Nat) (T : List Nat), k ≤ 17 ∧ i = .int .i64 (k : Int) ∧ (∀ j, T.getD j 0 = if j < k then l.getD j 0 else 0) ∧ Ints wr w.heap.size (.slice (some ⟨w.heap.size, 0, none⟩) 24 24) 24 T ∧ Below w.heap.size w wr) (fun i _ => 17 - (intOf i).toNat)
  case atStart => exact ⟨0, List.replicate 24 0, Nat.zero_le _, rfl, fun j => by simp only [List.getD, List.getElem?_replicate]; split <;> simp, O1.out, B1.out⟩
  case round =>
    obtain ⟨k, T, hk, rfl, hT, ho, hb⟩ := hrel
    have HO := Lib.hid ho
    have HB := Lib.hid hb
    have HT := Lib.hid hT
    have LT := Lib.hid ho.len
    clear ho hb hT O1 B1
    by_cases hlt : k < 17
    · have c0 := (rd k (by omega)).out wr HB.out
      have dk : decide ((k : Int) < 17) = true := by simp; omega
      have jn : (k : Int) < (n : Int) := by omega
      have j24 : (k : Int) < 24 := by omega
      have HT2 : Hid (∀ j, (T.set k (l.getD k 0)).getD j 0 = if j < k + 1 then l.getD j 0 else 0) := Lib.hid fun j => by
        rw [getD_set _ _ _ _ (by rw [LT.out]; omega)]
        by_cases e : k = j
        · subst e; simp
        · rw [if_neg e, HT.out j]
          by_cases e2 : j < k
          · rw [if_pos e2, if_pos (by omega)]
          · rw [if_neg e2, if_neg (by omega)]
      have HX := Lib.hid (rfl : l.getD k 0 = l.getD k 0)
      generalize l.getD k 0 = x at c0 HT2
      clear HX
      go_wp2_with (with_reducible refine wpList_put_int rfl _ _ rfl w.heap.size w.heap.size k 24 24 ?hx x ?hy _ HO.out ?hi ?_)
      case hx => exact rfl
      case hy => exact rfl
      case hi => omega
      intro w2 g2 o2 z2
      have O2 := Lib.hid o2
      have B2 := Lib.hid (HB.out.grown g2 HB.out.size (fun k hk => by injection hk; omega))
      clear g2 o2 z2 HO HB c0
      go_wp2_with fail
      exact ⟨⟨k + 1, _, by omega, by go_num, HT2.out, O2.out, B2.out⟩, by simp [intOf]; omega⟩
    · obtain rfl : k = 17 := by omega
      have c0 := (rd 16 (by omega)).out wr HB.out
      obtain ⟨r4, hr4⟩ : ∃ r4, r4 = l.getD 16 0 % 4 := ⟨_, rfl⟩
      have tr : ((l.getD 16 0 : Nat) : Int).tmod 4 = (r4 : Int) := by rw [Int.tmod_eq_emod_of_nonneg (by omega)]; omega
      have HE : Hid (vt (T.set 16 r4) 24 = loN l) := by
        have a1 : vt (T.set 16 r4) 24 = vt (T.set 16 r4) 17 := vt_zeros _ 17 7 fun i hi => by
          rw [getD_set _ _ _ _ (by rw [LT.out]; decide), if_neg (by omega), HT.out, if_neg (by omega)]
        have a2 : vt (T.set 16 r4) 16 = vt l 16 := vt_ext _ _ _ fun i hi => by
          rw [getD_set _ _ _ _ (by rw [LT.out]; decide), if_neg (by omega), HT.out, if_pos (by omega)]
        rw [Hid, a1, loN, vt, a2, getD_set _ _ _ _ (by rw [LT.out]; decide), if_pos rfl, hr4]
      have HBd : Hid (∀ j, (T.set 16 r4).getD j 0 < 256) := Lib.hid fun j => by
        rw [getD_set _ _ _ _ (by rw [LT.out]; decide)]
        split
        · omega
        · rw [HT.out]
          split
          · exact HD.out j
          · decide
      have jn : (16 : Int) < (n : Int) := by omega
      clear hr4 hk hlt HT
      generalize l.getD 16 0 = x16 at c0 tr
      go_wp2_with (with_reducible refine wpList_put_int rfl _ _ rfl w.heap.size w.heap.size 16 24 24 ?hx r4 ?hy _ HO.out ?hi ?_)
      case hx => exact rfl
      case hy => exact rfl
      case hi => decide
      intro w2 g2 o2 z2
      have O2 := Lib.hid o2
      have B2 := Lib.hid (HB.out.grown g2 HB.out.size (fun k hk => by injection hk; omega))
      clear g2 o2 z2 HO HB c0 tr LT jn
      generalize T.set 16 r4 = T0 at *
      go_wp2_with fail
      go_loopw [5] (fun i wr => ∃ (k hi : Nat) (T : List Nat), 16 ≤ k ∧ k ≤ n ∧ i = .int .i64 (k : Int) ∧ (∀ j, T.getD j 0 ≤ 600 + if j + 17 < k then 81600 else 0) ∧ (k = 16 → ∀ j, T.getD j 0 < 256) ∧ vt T 24 = loN l + 5 * hi ∧ (k = 16 → hi = 0) ∧ (17 ≤ k → loN l + 2 ^ 130 * hi = vt l k) ∧ Ints wr w.heap.size (.slice (some ⟨w.heap.size, 0, none⟩) 24 24) 24 T ∧ Below w.heap.size w wr) (fun i _ => n - (intOf i).toNat)
      case atStart => exact ⟨16, 0, T0, by omega, by omega, rfl, fun j => by have := HBd.out j; omega, fun _ => HBd.out, by rw [HE.out]; omega, fun _ => rfl, fun h => by omega, O2.out, B2.out⟩
      case round =>
        obtain ⟨k, hi, T, hk16, hkn, rfl, hT, hT6, hv, h16, h17, ho, hb⟩ := hrel
        have HO := Lib.hid ho
        have HB := Lib.hid hb
        have LT := Lib.hid ho.len
        have HT := Lib.hid hT
        have HT6 := Lib.hid hT6
        have HV := Lib.hid hv
        have H16 := Lib.hid h16
        have H17 := Lib.hid h17
        clear ho hb hT hT6 hv h16 h17 O2 B2 HE HBd
        by_cases hlt : k < n
        · have c0 := (rd k hlt).out wr HB.out
          have dk : decide ((k : Int) < (n : Int)) = true := by simp; omega
          have jn : (k : Int) < (n : Int) := by omega
          by_cases hk6 : k = 16
          · subst hk6
            obtain ⟨y, hy⟩ : ∃ y, y = T.getD 0 0 := ⟨_, rfl⟩
            have cy : wr.cell? ⟨w.heap.size, 0, none⟩ = some (.int .i64 (y : Int)) := HO.out.cell 0 y (by rw [hy, List.getD, List.getElem?_eq_getElem (by rw [LT.out]; decide)]; rfl)
            have x256 := HD.out 16
            have y256 := HT6.out rfl 0
            rw [← hy] at y256
            obtain ⟨x, hx⟩ : ∃ x, x = l.getD 16 0 := ⟨_, rfl⟩
            rw [← hx] at c0 x256
            obtain ⟨r, hr⟩ : ∃ r, r = x % 4 := ⟨_, rfl⟩
            obtain ⟨u, hu⟩ : ∃ u, u = x - r := ⟨_, rfl⟩
            obtain ⟨q, hq⟩ : ∃ q, q = u / 4 := ⟨_, rfl⟩
            obtain ⟨q5, hq5⟩ : ∃ q5, q5 = q * 5 := ⟨_, rfl⟩
            obtain ⟨s, hs⟩ : ∃ s, s = y + q5 := ⟨_, rfl⟩
            have t1 : (x : Int).tmod 4 = (r : Int) := by rw [Int.tmod_eq_emod_of_nonneg (by omega)]; omega
            have t2 : IntKind.i64.wrap ((x : Int) - (r : Int)) = (u : Int) := by rw [IntWalk.i64_in _ (by omega)]; omega
            have t3 : IntKind.i64.wrap ((u : Int) / 4) = (q : Int) := by rw [IntWalk.i64_in _ (by omega)]; omega
            have t4 : IntKind.i64.wrap ((q : Int) * 5) = (q5 : Int) := by rw [IntWalk.i64_in _ (by omega)]; omega
            have t5 : IntKind.i64.wrap ((y : Int) + (q5 : Int)) = (s : Int) := by rw [IntWalk.i64_in _ (by omega)]; omega
            have HQ : Hid (q = l.getD 16 0 / 4) := by rw [Hid, ← hx]; omega
            have HS : Hid (vt (T.set 0 s) 24 = loN l + 5 * q) := by
              have e := vt_add T 0 q5 24 (by rw [LT.out]; decide) (by decide)
              have e2 := HV.out
              rw [H16.out rfl] at e2
              rw [Hid, hs, hy, e, e2]
              omega
            have HBd : Hid (∀ j, (T.set 0 s).getD j 0 ≤ 600) := Lib.hid fun j => by
              rw [getD_set _ _ _ _ (by rw [LT.out]; decide)]
              split
              · omega
              · have := HT6.out rfl j
                omega
            clear hx hy hr hu hq hq5 hs x256 y256
            go_wp2_with (with_reducible refine wpList_put_int rfl _ _ rfl w.heap.size w.heap.size 0 24 24 ?hx s ?hy T HO.out ?hi ?_)
            intro w3 g3 o3 z3
            have O3 := Lib.hid o3
            have B3 := Lib.hid (HB.out.grown g3 HB.out.size (fun k hk => by injection hk; omega))
            clear g3 o3 z3 HO HB c0 cy t1 t2 t3 t4 t5
            go_wp2_with fail
            exact ⟨⟨17, q, _, by omega, by omega, by go_num, fun j => by have := HBd.out j; omega, fun h => by omega, HS.out, fun h => by omega, fun _ => fold_first l q HQ.out, O3.out, B3.out⟩, by simp [intOf]; omega⟩
          · have dk6 : ((k : Int) == 16) = false := by simp; omega
            have dk7 : ¬ ((k : Int) = 16) := by omega
            obtain ⟨t, ht⟩ : ∃ t, t = k - 17 := ⟨_, rfl⟩
            have t24 : t < 24 := by omega
            have j24 : (t : Int) < 24 := by omega
            obtain ⟨y, hy⟩ : ∃ y, y = T.getD t 0 := ⟨_, rfl⟩
            have cy : wr.cell? ⟨w.heap.size, t, none⟩ = some (.int .i64 (y : Int)) := HO.out.cell t y (by rw [hy, List.getD, List.getElem?_eq_getElem (by rw [LT.out]; exact t24)]; rfl)
            have x256 := HD.out k
            have yb := HT.out t
            rw [← hy, if_neg (by omega)] at yb
            obtain ⟨x, hx⟩ : ∃ x, x = l.getD k 0 := ⟨_, rfl⟩
            rw [← hx] at c0 x256
            obtain ⟨q, hq⟩ : ∃ q, q = x * 64 := ⟨_, rfl⟩
            obtain ⟨q5, hq5⟩ : ∃ q5, q5 = q * 5 := ⟨_, rfl⟩
            obtain ⟨s, hs⟩ : ∃ s, s = y + q5 := ⟨_, rfl⟩
            have t1 : IntKind.i64.wrap ((k : Int) - 17) = (t : Int) := by rw [IntWalk.i64_in _ (by omega)]; omega
            have t3 : IntKind.i64.wrap ((x : Int) * 64) = (q : Int) := by rw [IntWalk.i64_in _ (by omega)]; omega
            have t4 : IntKind.i64.wrap ((q : Int) * 5) = (q5 : Int) := by rw [IntWalk.i64_in _ (by omega)]; omega
            have t5 : IntKind.i64.wrap ((y : Int) + (q5 : Int)) = (s : Int) := by rw [IntWalk.i64_in _ (by omega)]; omega
            have HS : Hid (vt (T.set t s) 24 = loN l + 5 * (hi + 64 * (256 ^ t * x))) := by
              have e := vt_add T t q5 24 (by rw [LT.out]; exact t24) t24
              have e2 : 256 ^ t * q5 = 320 * (256 ^ t * x) := by rw [hq5, hq, Nat.mul_assoc, Nat.mul_comm x, ← Nat.mul_assoc, Nat.mul_comm (256 ^ t), Nat.mul_assoc]
              rw [Hid, hs, hy, e, e2, HV.out]
              generalize 256 ^ t * x = P
              omega
            have HF : Hid (loN l + 2 ^ 130 * (hi + 64 * (256 ^ t * x)) = vt l (k + 1)) := Lib.hid (fold_step l k t _ hi x (by omega) hx (H17.out (by omega)))
            have HBd : Hid (∀ j, (T.set t s).getD j 0 ≤ 600 + if j + 17 < k + 1 then 81600 else 0) := Lib.hid fun j => by
              rw [getD_set _ _ _ _ (by rw [LT.out]; exact t24)]
              by_cases e : t = j
              · rw [if_pos e, if_pos (by omega)]; omega
              · have := HT.out j
                rw [if_neg e]
                by_cases e2 : j + 17 < k
                · rw [if_pos e2] at this; rw [if_pos (by omega)]; exact this
                · rw [if_neg e2] at this; split <;> omega
            have KK := Lib.hid (And.intro hk16 (And.intro hlt t24))
            clear hx hy hq hq5 hs x256 yb ht
            go_wp2_with (refine wpList_put_int rfl _ _ rfl w.heap.size w.heap.size t 24 24 rfl s rfl T HO.out KK.out.2.2 ?_)
            intro w3 g3 o3 z3
            have O3 := Lib.hid o3
            have B3 := Lib.hid (HB.out.grown g3 HB.out.size (fun k hk => by injection hk; omega))
            clear g3 o3 z3 HO HB c0 cy t1 t3 t4 t5
            go_wp2_with fail
            exact ⟨⟨k + 1, _, _, by omega, by omega, by go_num, HBd.out, fun h => by omega, HS.out, fun h => by omega, fun _ => HF.out, O3.out, B3.out⟩, by simp [intOf]; omega⟩
        · obtain rfl : k = n := by omega
          have dk : decide ((k : Int) < (k : Int)) = false := by simp
          have HF : Hid (vt T 24 = fold5 (vt l k)) := Lib.hid (fold_end l k _ hi HD.out (H17.out hn17) HV.out)
          have HBd : Hid (∀ j, T.getD j 0 < 2 ^ 31) := Lib.hid fun j => by
            have := HT.out j
            split at this <;> omega
          go_wp2
          go_ret
          exact ⟨_, _, T, rfl, HO.out, HBd.out, HF.out, HB.out⟩
end Go.Proofs.YtmnhpkdldeifgaaGreatDoor

namespace Go.Proofs.YtmnhpkdldeifgaaGreatDoor
set_option maxRecDepth 100000
open Go.RowKit

theorem mul_small (x y : Nat) (hx : x ≤ 600) (hy : y ≤ 255) : x * y ≤ 153000 := Nat.le_trans (Nat.mul_le_mul hx hy) (by decide)
theorem take_getD (T : List Nat) (m i : Nat) (h : i < m) : (T.take m).getD i 0 = T.getD i 0 := by simp [List.getD, h]
theorem take_lt (T : List Nat) (m : Nat) (h : ∀ i, T.getD i 0 < 256) (i : Nat) : (T.take m).getD i 0 < 256 := by
  rcases Nat.lt_or_ge i m with hi | hi
  · rw [take_getD _ _ _ hi]; exact h i
  · rw [List.getD, List.getElem?_eq_none (by simp; omega)]; decide

set_option maxRecDepth 100000 in
set_option maxHeartbeats 4000000 in
theorem times_any (Ba Bb ga gb ca cb : Nat) (la lb : List Nat) (ha : ∀ i, la.getD i 0 ≤ 600) (hb : ∀ i, lb.getD i 0 < 256) (w : World) (h0 : Ints w Ba (.slice (some ⟨ga, 0, none⟩) 17 ca) 17 la) (h1 : Ints w Bb (.slice (some ⟨gb, 0, none⟩) 17 cb) 17 lb) :
    Calls Tryz.prog 83 #[.slice (some ⟨ga, 0, none⟩) 17 ca, .slice (some ⟨gb, 0, none⟩) 17 cb] w fun e w' => ∃ g c' T, e = .returned (.slice (some ⟨g, 0, none⟩) 17 c') ∧ Ints w' w.heap.size (.slice (some ⟨g, 0, none⟩) 17 c') 17 T ∧ (∀ i, T.getD i 0 < 256) ∧ vt T 17 < 2 ^ 130 ∧ vt T 17 % pP = vt la 17 * vt lb 17 % pP ∧ Below w.heap.size w w' := by
  have LA := Lib.hid h0.len
  have LB := Lib.hid h1.len
  have GA : Hid (ga < w.heap.size) := Lib.hid ((h0.lt ga rfl).2)
  have GB : Hid (gb < w.heap.size) := Lib.hid ((h1.lt gb rfl).2)
  have HA := Lib.hid ha
  have HB0 := Lib.hid hb
  have ra : ∀ i, i < 17 → Hid (∀ W, Below w.heap.size w W → W.cell? ⟨ga, i, none⟩ = some (.int .i64 ((la.getD i 0 : Nat) : Int))) := fun i hi => Lib.hid fun W hW =>
    (hW.cell (p := ⟨ga, i, none⟩) GA.out).trans (h0.cell i _ (by rw [List.getD, List.getElem?_eq_getElem (by rw [LA.out]; exact hi)]; rfl))
  have rb : ∀ i, i < 17 → Hid (∀ W, Below w.heap.size w W → W.cell? ⟨gb, i, none⟩ = some (.int .i64 ((lb.getD i 0 : Nat) : Int))) := fun i hi => Lib.hid fun W hW =>
    (hW.cell (p := ⟨gb, i, none⟩) GB.out).trans (h1.cell i _ (by rw [List.getD, List.getElem?_eq_getElem (by rw [LB.out]; exact hi)]; rfl))
  have PB : Hid (vt la 17 * vt lb 17 < 2 ^ 142 * 2 ^ 142) := by
    have e1 := vt_le la 600 17 ha
    have e2 := vt_lt lb 17 hb
    exact Lib.hid (Nat.lt_of_le_of_lt (Nat.mul_le_mul e1 (Nat.le_of_lt e2)) (by decide))
  clear h0 h1 ha hb GA GB
  go_enter Tryz.func83, Tryz.ntmps83
  go_wp2_with (at_make; refine wpList_make_ints rfl _ _ rfl 34 rfl rfl (by decide) ?_)
  intro w1 o1 b1 z1
  have O1 : Hid (Ints w1 w.heap.size (.slice (some ⟨w.heap.size, 0, none⟩) 34 34) 34 (List.replicate 34 0)) := o1
  have B1 := Lib.hid b1
  clear o1 b1 z1
  have Z0 : Hid (∀ j, (List.replicate 34 0).getD j 0 = 0) := Lib.hid fun j => by simp only [List.getD, List.getElem?_replicate]; split <;> simp
  have ZV : Hid (vt (List.replicate 34 0) 34 = 0) := Lib.hid (vt_zeros (List.replicate 34 0) 0 34 fun i _ => Z0.out i)
  go_wp2_with fail
  go_loopw [6] (fun i wr => ∃ (a : Nat) (T : List Nat), a ≤ 17 ∧ i = .int .i64 (a : Int) ∧ (∀ j, T.getD j 0 ≤ 153000 * a) ∧ vt T 34 = vt la a * vt lb 17 ∧ Ints wr w.heap.size (.slice (some ⟨w.heap.size, 0, none⟩) 34 34) 34 T ∧ Below w.heap.size w wr) (fun i _ => 17 - (intOf i).toNat)
  case atStart => exact ⟨0, List.replicate 34 0, by decide, rfl, fun j => by rw [Z0.out]; omega, by rw [ZV.out, vt, Nat.zero_mul], O1.out, B1.out⟩
  case round =>
    obtain ⟨a, T, ha17, rfl, hT, hv, ho, hb⟩ := hrel
    have HO := Lib.hid ho
    have HB := Lib.hid hb
    have HT := Lib.hid hT
    have HV := Lib.hid hv
    clear ho hb hT hv O1 B1 Z0 ZV
    by_cases hlt : a < 17
    · have da : decide ((a : Int) < 17) = true := by simp; omega
      go_wp2_with fail
      go_loopw [7] (fun i wr => ∃ (b : Nat) (T : List Nat), b ≤ 17 ∧ i = .int .i64 (b : Int) ∧ (∀ j, T.getD j 0 ≤ 153000 * a + if a ≤ j ∧ j < a + b then 153000 else 0) ∧ vt T 34 = vt la a * vt lb 17 + 256 ^ a * la.getD a 0 * vt lb b ∧ Ints wr w.heap.size (.slice (some ⟨w.heap.size, 0, none⟩) 34 34) 34 T ∧ Below w.heap.size w wr) (fun i _ => 17 - (intOf i).toNat)
      case atStart => exact ⟨0, T, by decide, rfl, fun j => by have := HT.out j; omega, by rw [HV.out, vt, Nat.mul_zero, Nat.add_zero], HO.out, HB.out⟩
      case round =>
        rename_i wr0 T00 wr
        obtain ⟨b, T, hb17, rfl, hT, hv, ho, hb⟩ := hrel
        have HO := Lib.hid ho
        have HB := Lib.hid hb
        have HT := Lib.hid hT
        have HV := Lib.hid hv
        have LT := Lib.hid ho.len
        clear ho hb hT hv
        by_cases hlb : b < 17
        · have db : decide ((b : Int) < 17) = true := by simp; omega
          obtain ⟨x, hx⟩ : ∃ x, x = la.getD a 0 := ⟨_, rfl⟩
          obtain ⟨y, hy⟩ : ∃ y, y = lb.getD b 0 := ⟨_, rfl⟩
          have c0 := (ra a hlt).out wr HB.out
          have c1 := (rb b hlb).out wr HB.out
          rw [← hx] at c0
          rw [← hy] at c1
          obtain ⟨j, hj⟩ : ∃ j, j = a + b := ⟨_, rfl⟩
          have j34 : j < 34 := by omega
          obtain ⟨z, hz⟩ : ∃ z, z = T.getD j 0 := ⟨_, rfl⟩
          have cz : wr.cell? ⟨w.heap.size, j, none⟩ = some (.int .i64 (z : Int)) := HO.out.cell j z (by rw [hz, List.getD, List.getElem?_eq_getElem (by rw [LT.out]; exact j34)]; rfl)
          have zb := HT.out j
          rw [← hz, if_neg (by omega)] at zb
          have xb := HA.out a
          have yb := HB0.out b
          rw [← hx] at xb
          rw [← hy] at yb
          have pb := mul_small x y xb (by omega)
          obtain ⟨p, hp⟩ : ∃ p, p = x * y := ⟨_, rfl⟩
          rw [← hp] at pb
          obtain ⟨s, hs⟩ : ∃ s, s = z + p := ⟨_, rfl⟩
          have t1 : IntKind.i64.wrap ((a : Int) + (b : Int)) = (j : Int) := by rw [IntWalk.i64_in _ (by omega)]; omega
          have t2 : IntKind.i64.wrap ((x : Int) * (y : Int)) = (p : Int) := by
            have e : (x : Int) * (y : Int) = (p : Int) := by rw [hp]; exact (Int.natCast_mul x y).symm
            rw [e, IntWalk.i64_in _ (by omega)]
          have t3 : IntKind.i64.wrap ((z : Int) + (p : Int)) = (s : Int) := by rw [IntWalk.i64_in _ (by omega)]; omega
          have HS : Hid (vt (T.set j s) 34 = vt la a * vt lb 17 + 256 ^ a * la.getD a 0 * vt lb (b + 1)) := by
            have e := vt_add T j p 34 (by rw [LT.out]; exact j34) j34
            have e2 : vt lb (b + 1) = vt lb b + 256 ^ b * y := by rw [hy]; rfl
            have e3 := mul_step (vt lb b) y x (vt lb 17) (vt la a) (256 ^ a) (256 ^ b) (256 ^ j) (by rw [hj, Nat.pow_add])
            rw [Hid, hs, hz, e, HV.out, e2, ← hx, e3, hp]
          have HBd : Hid (∀ i, (T.set j s).getD i 0 ≤ 153000 * a + if a ≤ i ∧ i < a + (b + 1) then 153000 else 0) := Lib.hid fun i => by
            rw [getD_set _ _ _ _ (by rw [LT.out]; exact j34)]
            by_cases e : j = i
            · rw [if_pos e, if_pos (by omega)]; omega
            · have := HT.out i
              rw [if_neg e]
              by_cases e2 : a ≤ i ∧ i < a + b
              · rw [if_pos e2] at this; rw [if_pos (by omega)]; exact this
              · rw [if_neg e2] at this; split <;> omega
          have ja : (a : Int) < 17 := by omega
          have jb : (b : Int) < 17 := by omega
          have jj : (j : Int) < 34 := by omega
          have C0 := Lib.hid c0
          have C1 := Lib.hid c1
          have CZ := Lib.hid cz
          have KK := Lib.hid (And.intro hlb j34)
          clear hx hy hz hj hp hs zb xb yb pb c0 c1 cz
          go_wp2_with fail
          refine still_tail 21 (by kernel_rfl) (by kernel_rfl) fun w2 h2 b2 => ?_
          simp only [List.take_succ_cons, List.take_zero, List.drop_succ_cons, List.drop_zero]
          have c0 := (World.cell?_of_block (a := ⟨ga, a, none⟩) (by rw [h2])).trans C0.out
          have c1 := (World.cell?_of_block (a := ⟨gb, b, none⟩) (by rw [h2])).trans C1.out
          have cz := (World.cell?_of_block (a := ⟨w.heap.size, j, none⟩) (by rw [h2])).trans CZ.out
          repeat still_step
          refine wpStill_nil ?_
          have O2 := Lib.hid (kept_below HO.out b2 rfl)
          have B2 := Lib.hid (HB.out.trans (b2.mono HB.out.size))
          clear c0 c1 cz b2 h2 C0 C1 CZ HO HB
          refine wpList_put_int rfl _ _ rfl w.heap.size w.heap.size j 34 34 rfl s rfl T O2.out KK.out.2 ?_
          intro w3 g3 o3 z3
          have O3 := Lib.hid o3
          have B3 := Lib.hid (B2.out.grown g3 B2.out.size (fun k hk => by injection hk; omega))
          clear g3 o3 z3 O2 B2 t1 t2 t3
          refine wpList_nil ?_
          go_wp2_with fail
          exact ⟨⟨b + 1, _, by omega, by go_num, HBd.out, HS.out, O3.out, B3.out⟩, by simp [intOf]; omega⟩
        · obtain rfl : b = 17 := by omega
          have HV2 : Hid (vt T 34 = vt la (a + 1) * vt lb 17) := by
            have e : vt la (a + 1) = vt la a + 256 ^ a * la.getD a 0 := rfl
            rw [Hid, HV.out, e, Nat.add_mul]
          have HT2 : Hid (∀ j, T.getD j 0 ≤ 153000 * (a + 1)) := Lib.hid fun j => by
            have := HT.out j
            split at this <;> omega
          clear HV HT
          go_wp2_with fail
          exact ⟨⟨a + 1, T, by omega, by go_num, HT2.out, HV2.out, HO.out, HB.out⟩, by simp [intOf]; omega⟩
    · obtain rfl : a = 17 := by omega
      have CC := Lib.hid (carried_any w.heap.size w.heap.size 34 34 T (by decide) (by decide) (fun i => by have := HT.out i; omega) wr HO.out)
      rw [HV.out] at CC
      obtain ⟨P, hP⟩ : ∃ P, P = vt la 17 * vt lb 17 := ⟨_, rfl⟩
      rw [← hP] at CC PB
      have HP := Lib.hid hP
      clear hP HT HV HO ra rb
      go_wp2_with fail
      refine CC.out.mono ?_
      rintro e w2 ⟨g2, c2, T2, rfl, o2, d2, v2, b2⟩
      have O2 := Lib.hid (own_less o2 HB.out.size)
      have B2 := Lib.hid (HB.out.trans (b2.mono HB.out.size))
      have D2 := Lib.hid d2
      have V2 := Lib.hid v2
      clear o2 b2 d2 v2 HB CC
      go_wp2_with fail
      go_loopw [8, 9] (fun u i wr => ∃ (c g m cp : Nat) (T : List Nat), c ≤ 4 ∧ u = .slice (some ⟨g, 0, none⟩) m cp ∧ i = .int .i64 (c : Int) ∧ 17 ≤ m ∧ m ≤ 40 ∧ (∀ j, T.getD j 0 < 256) ∧ vt T m = foldN P c ∧ Ints wr w.heap.size (.slice (some ⟨g, 0, none⟩) m cp) m T ∧ Below w.heap.size w wr) (fun _ i _ => 4 - (intOf i).toNat)
      case atStart => exact ⟨0, g2, 38, c2, T2, by decide, rfl, rfl, by decide, by decide, D2.out, V2.out, O2.out, B2.out⟩
      case round =>
        rename_i wra Ta wr
        obtain ⟨c, g, m, cp, T, hc, rfl, rfl, hm17, hm, hd, hv, ho, hb⟩ := hrel
        have HO := Lib.hid ho
        have HB := Lib.hid hb
        have HD := Lib.hid hd
        have HV := Lib.hid hv
        clear ho hb hd hv O2 B2 D2 V2
        by_cases hlt : c < 4
        · have dc : decide ((c : Int) < 4) = true := by simp; omega
          have CF := Lib.hid (folded_any w.heap.size g m cp T hm17 (by omega) HD.out wr HO.out)
          rw [HV.out] at CF
          have EN : Hid (fold5 (foldN P c) = foldN P (c + 1)) := Lib.hid rfl
          rw [EN.out] at CF
          clear HV HD HO
          go_wp2_with fail
          refine CF.out.mono ?_
          rintro e w3 ⟨g3, c3, T3, rfl, o3, d3, v3, b3⟩
          have B3 := Lib.hid (HB.out.trans (b3.mono HB.out.size))
          have CC := Lib.hid (carried_any wr.heap.size g3 24 c3 T3 (by decide) (by decide) d3 w3 o3)
          rw [v3] at CC
          clear o3 b3 d3 v3 HB CF
          go_wp2_with fail
          refine CC.out.mono ?_
          rintro e w4 ⟨g4, c4, T4, rfl, o4, d4, v4, b4⟩
          have O4 := Lib.hid (own_less o4 B3.out.size)
          have B4 := Lib.hid (B3.out.trans (b4.mono B3.out.size))
          have D4 := Lib.hid d4
          have V4 := Lib.hid v4
          clear o4 b4 d4 v4 CC B3
          go_wp2_with fail
          exact ⟨⟨c + 1, g4, 28, c4, T4, by omega, rfl, by go_num, by decide, by decide, D4.out, V4.out, O4.out, B4.out⟩, by simp [intOf]; omega⟩
        · obtain rfl : c = 4 := by omega
          have hc17 : (17 : Int) ≤ (cp : Int) := by
            obtain ⟨g', cp', e, hle⟩ := HO.out.form (by omega)
            injection e with e1 e2 e3
            omega
          have F4 := Lib.hid (foldN_four P PB.out)
          have M4 := Lib.hid (foldN_mod P 4)
          have V17 : Hid (vt (T.take 17) 17 = foldN P 4) := by
            obtain ⟨k, rfl⟩ := Nat.le.dest hm17
            have e1 : vt (T.take 17) 17 = vt T 17 := vt_ext _ _ _ fun i hi => take_getD T 17 i hi
            have e2 := vt_small T 17 k (by rw [HV.out]; exact Nat.lt_of_lt_of_le F4.out (by decide))
            rw [Hid, e1, e2, HV.out]
          have O5 := Lib.hid (HO.out.first 17 hm17)
          have D5 : Hid (∀ i, (T.take 17).getD i 0 < 256) := Lib.hid fun i => take_lt T 17 HD.out i
          have Q5 : Hid (vt (T.take 17) 17 < 2 ^ 130) := by rw [Hid, V17.out]; exact F4.out
          have R5 : Hid (vt (T.take 17) 17 % pP = vt la 17 * vt lb 17 % pP) := by rw [Hid, V17.out, M4.out, HP.out]
          clear F4 M4 V17 HO HD HV PB HP
          go_wp2
          go_ret
          exact ⟨_, _, _, rfl, O5.out, D5.out, Q5.out, R5.out, HB.out⟩
end Go.Proofs.YtmnhpkdldeifgaaGreatDoor
