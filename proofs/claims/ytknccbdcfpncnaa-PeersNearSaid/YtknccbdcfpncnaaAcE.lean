/- What package arc's Nearest answers. -/
import Derived.Test.YtknccbdcfpncnaaAcD
namespace Go.Proofs.Ytknccbdcfpncnaa
set_option maxRecDepth 100000
open Go.RowKit Go.Sort Go.Shelf

theorem nearL_first (key : Nat) (l : List Nat) (k : Nat) (h : nearL key l = some k) : ∀ i, i < k → distN key (l.getD k 0) < distN key (l.getD i 0) := by
  induction l generalizing k with
  | nil => simp [nearL] at h
  | cons x l ih =>
    simp only [nearL] at h
    cases hn : nearL key l with
    | none =>
      rw [hn] at h
      injection h with h
      subst h
      intro i hi
      omega
    | some j =>
      rw [hn] at h
      simp only at h
      split at h
      · injection h with h
        subst h
        intro i hi
        omega
      · rename_i hle
        injection h with h
        subst h
        intro i hi
        have e : (x :: l).getD (j + 1) 0 = l.getD j 0 := rfl
        rw [e]
        cases i with
        | zero =>
          have e0 : (x :: l).getD 0 0 = x := rfl
          rw [e0]
          omega
        | succ i =>
          have e1 : (x :: l).getD (i + 1) 0 = l.getD i 0 := rfl
          rw [e1]
          exact ih j hn i (by omega)
/-- The first one of the nearest is known by that. -/
theorem nearL_of (key : Nat) (l : List Nat) (j : Nat) (hj : j < l.length) (hm : ∀ i, i < l.length → distN key (l.getD j 0) ≤ distN key (l.getD i 0)) (hf : ∀ i, i < j → distN key (l.getD j 0) < distN key (l.getD i 0)) : nearL key l = some j := by
  cases hn : nearL key l with
  | none =>
    rw [nearL_none] at hn
    subst hn
    simp at hj
  | some k =>
    obtain ⟨h1, h2⟩ := nearL_spec key l k hn
    have h3 := nearL_first key l k hn
    have h4 : distN key (l.getD k 0) ≤ distN key (l.getD j 0) := h2 _ (by rw [List.getD, List.getElem?_eq_getElem hj]; exact List.getElem_mem _)
    have h5 := hm k h1
    rcases Nat.lt_trichotomy k j with hl | hl | hl
    · have := hf k hl
      omega
    · rw [hl]
    · have := h3 j hl
      omega
/-- j is the first one of the nearest among the first k. -/
structure Near (key : Nat) (l : List Nat) (k j : Nat) : Prop where
  lt : j < k
  le : ∀ i, i < k → distN key (l.getD j 0) ≤ distN key (l.getD i 0)
  first : ∀ i, i < j → distN key (l.getD j 0) < distN key (l.getD i 0)
theorem Near.start (key : Nat) (l : List Nat) : Near key l 1 0 := by
  refine ⟨by decide, fun i hi => ?_, fun i hi => by omega⟩
  obtain rfl : i = 0 := by omega
  exact Nat.le_refl _
theorem Near.stay {key : Nat} {l : List Nat} {k j : Nat} (h : Near key l k j) (hx : ¬ distN key (l.getD k 0) < distN key (l.getD j 0)) : Near key l (k + 1) j :=
  ⟨by have := h.lt; omega, fun i hi => by
    rcases Nat.lt_or_ge i k with hl | hl
    · exact h.le i hl
    · obtain rfl : i = k := by omega
      omega, h.first⟩
theorem Near.move {key : Nat} {l : List Nat} {k j : Nat} (h : Near key l k j) (hx : distN key (l.getD k 0) < distN key (l.getD j 0)) : Near key l (k + 1) k :=
  ⟨by omega, fun i hi => by
    rcases Nat.lt_or_ge i k with hl | hl
    · have := h.le i hl
      omega
    · obtain rfl : i = k := by omega
      exact Nat.le_refl _, fun i hi => by have := h.le i hi; omega⟩

theorem cmpZ_lt (x y : Nat) : decide (cmpZ x y < 0) = decide (x < y) := by
  rw [cmpZ]
  (repeat' split) <;> simp <;> omega

set_option maxRecDepth 100000 in
set_option maxHeartbeats 2000000 in
theorem nearest_any (A : Option Addr) (n cap key : Nat) (ids : List Nat) (w : World) (hk : key < 18446744073709551616) (hids : ∀ x ∈ ids, x < 18446744073709551616) (hn : n ≤ 100000) (h : UsAt w (.slice A n cap) ids) :
    Calls Try.prog 38 #[.slice A n cap, .int .u64 (key : Int)] w fun e w' => e = .returned (.int .i64 (nearI key ids)) ∧ Below w.heap.size w w' := by
  have HZ := Lib.hid h.size
  have H := Lib.hid h
  have HK := Lib.hid (And.intro hk hn)
  have HI := Lib.hid hids
  have HL : Hid (ids.length = n) := Lib.hid h.size.1.symm
  clear h hk hids hn
  have C1 := Lib.hid (order_any key w)
  go_enter Try.func38, Try.ntmps38
  go_wp2_with (go_at_call 48; refine C1.out.mono ?_; rintro e w1 ⟨rfl, hw1⟩; have W1 : Aside (w1 = w.alloc (.cells #[.int .u64 (key : Int)] 22)) := hw1; clear hw1)
  have B1 : Aside (Below w.heap.size w w1) := by rw [W1.out]; exact (Below.refl _ _).alloc (Nat.le_refl _) _
  have K1 : Aside (w1.cell? ⟨w.heap.size, 0, none⟩ = some (.int .u64 (key : Int))) := by rw [W1.out]; exact (Whole.new w _ _).at_ 0
  clear W1
  go_loopg [6, 13] n (fun kx s6 s13 wr => ∃ (k q : Nat), s13 = .int .i64 (k : Int) ∧ k ≤ n ∧ n - k ≤ kx ∧ wr = w1.drewN q ∧ Aside ((k = 0 ∧ s6 = .int .i64 (-1)) ∨ ∃ j : Nat, s6 = .int .i64 (j : Int) ∧ Near key ids k j))
  case atStart => exact ⟨0, 0, rfl, Nat.zero_le _, by omega, rfl, .inl ⟨rfl, rfl⟩⟩
  case round =>
    obtain ⟨k, q, rfl, hkn, hkx, hwr, G⟩ := hrel
    have WR : Aside (wr = w1.drewN q) := hwr
    have KW : Aside (wr.cell? ⟨w.heap.size, 0, none⟩ = some (.int .u64 (key : Int))) := by rw [hwr]; exact K1.out
    have BW : Aside (Below w.heap.size w wr) := by rw [hwr]; exact below_drewN B1.out _
    clear hwr
    by_cases hlt : k < n
    · have hltz : (k : Int) < (n : Int) := by omega
      have hkl : k < ids.length := by have := HL.out; omega
      obtain ⟨x, hx⟩ : ∃ x, ids[k]? = some x := ⟨_, List.getElem?_eq_getElem hkl⟩
      have gx : ids.getD k 0 = x := by rw [List.getD, hx]; rfl
      have hxl : x < 18446744073709551616 := HI.out x (List.mem_of_getElem? hx)
      obtain ⟨b, off, rfl, hb, hcell⟩ := H.out.spots (by intro e; rw [e] at hkl; simp at hkl)
      have cx := (BW.out.cell (p := ⟨b, off + k, none⟩) hb).trans (hcell k x hx)
      have r1 : IntKind.i64.wrap ((k : Int) + 1) = (k : Int) + 1 := by have := HK.out; rw [IntWalk.i64_in _ (by omega)]
      rcases G.out with ⟨k0, rfl⟩ | ⟨j, rfl, N⟩
      · have d : decide ((-1 : Int) < 0) = true := by decide
        have K0 : Aside (k = 0) := k0
        clear k0 hb hcell hx gx hxl hkl G
        go_wp2_with fail
        go_roundg (n - (k + 1))
        case measure => omega
        case rel => exact ⟨k + 1, q, by go_num, hlt, Nat.le_refl _, WR.out, .inr ⟨k, rfl, by rw [K0.out]; exact Near.start _ _⟩⟩
      · have hjl : j < ids.length := by have := N.lt; omega
        obtain ⟨y, hy⟩ : ∃ y, ids[j]? = some y := ⟨_, List.getElem?_eq_getElem hjl⟩
        have gy : ids.getD j 0 = y := by rw [List.getD, hy]; rfl
        have hyl : y < 18446744073709551616 := HI.out y (List.mem_of_getElem? hy)
        have cy := (BW.out.cell (p := ⟨b, off + j, none⟩) hb).trans (hcell j y hy)
        have C := Lib.hid (met_any w.heap.size key x y wr KW.out)
        have d : decide ((j : Int) < 0) = false := by simp
        have hjn : (j : Int) < (n : Int) := by have := HL.out; omega
        have M : Aside (decide (metZ key x y < 0) = decide (distN key (ids.getD k 0) < distN key (ids.getD j 0))) := by show _ = _; rw [gx, gy, metZ, cmpZ_lt, distW_dist _ _ HK.out.1 hxl, distW_dist _ _ HK.out.1 hyl]
        have NN : Aside (Near key ids k j) := N
        generalize metZ key x y = z at C M
        clear hb hcell hx hy gx gy hxl hyl hkl hjl N G
        by_cases hz : z < 0
        · have dz : decide (z < 0) = true := decide_eq_true hz
          have hd0 : distN key (ids.getD k 0) < distN key (ids.getD j 0) := of_decide_eq_true (by rw [← M.out]; exact dz)
          have HD : Aside _ := hd0
          clear hd0
          clear M
          go_wp2_with fail
          refine C.out.mono ?_
          rintro e w2 ⟨rfl, q2, hw2⟩
          have W2 : Aside (w2 = wr.drewN q2) := hw2
          clear hw2
          go_wp2_with fail
          go_roundg (n - (k + 1))
          case measure => omega
          case rel => exact ⟨k + 1, q + q2, by go_num, hlt, Nat.le_refl _, by rw [W2.out, WR.out, World.drewN_drewN], .inr ⟨k, rfl, NN.out.move HD.out⟩⟩
        · have dz : decide (z < 0) = false := decide_eq_false hz
          have hd0 : ¬ distN key (ids.getD k 0) < distN key (ids.getD j 0) := of_decide_eq_false (by rw [← M.out]; exact dz)
          have HD : Aside _ := hd0
          clear hd0
          clear M
          go_wp2_with fail
          refine C.out.mono ?_
          rintro e w2 ⟨rfl, q2, hw2⟩
          have W2 : Aside (w2 = wr.drewN q2) := hw2
          clear hw2
          go_wp2_with fail
          go_roundg (n - (k + 1))
          case measure => omega
          case rel => exact ⟨k + 1, q + q2, by go_num, hlt, Nat.le_refl _, by rw [W2.out, WR.out, World.drewN_drewN], .inr ⟨j, rfl, NN.out.stay HD.out⟩⟩
    · have hnot : ¬ (k : Int) < (n : Int) := by omega
      obtain rfl : k = n := by omega
      rcases G.out with ⟨k0, rfl⟩ | ⟨j, rfl, N⟩
      · have E : Hid (nearI key ids = -1) := Lib.hid (by
          have : ids = [] := List.length_eq_zero_iff.1 (HL.out.trans k0)
          rw [this]
          rfl)
        clear k0 G
        go_wp2_with fail
        go_ret
        exact ⟨by rw [E.out]; rfl, BW.out⟩
      · have E : Hid (nearI key ids = (j : Int)) := Lib.hid (by
          have hl := HL.out
          rw [nearI, nearL_of key ids j (by rw [hl]; exact N.lt) (fun i hi => N.le i (by omega)) N.first])
        clear N G
        go_wp2_with fail
        go_ret
        exact ⟨by rw [E.out]; rfl, BW.out⟩
end Go.Proofs.Ytknccbdcfpncnaa
