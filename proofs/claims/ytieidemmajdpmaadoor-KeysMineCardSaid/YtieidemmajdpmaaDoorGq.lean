/- What package digest's Two answers. Plain mathematics of package equal: all bits of bytes, exclusive-or of two rows of bytes. It speaks of no program. What package mac's calls answer: contracts of blend, Key, Sum, Parts (of two), Check. -/
import Derived.Test.YtieidemmajdpmaaDoorGp
import Derived.Test.YtieidemmajdpmaaDoorGd
import Derived.Test.YtieidemmajdpmaaDoorGa
import Derived.Laws.BitsAllLaws
import Derived.Test.YtieidemmajdpmaaDoorGb
import Derived.RegionTactic
import Derived.ChangeAlike
import Derived.Laws.CopyOwn
namespace Go.Proofs.YtieidemmajdpmaaDoor
set_option maxRecDepth 100000
open Go.RowKit

set_option maxHeartbeats 1000000 in
theorem two_own (v0 v1 : Value) (l0 l1 : List UInt8) (hl : l0.length + l1.length ≤ 100000) (w : World) (h0 : BytesAt w v0 l0) (h1 : BytesAt w v1 l1) (T : Tab w) :
    Calls Tryd.prog 42 #[v0, v1] w fun e w' => ∃ v', e = .returned v' ∧ w'.ownsRow w.heap.size 5 1 v' (sumL (l0 ++ l1)).length (bv (sumL (l0 ++ l1))) ∧ Below w.heap.size w w' := by
  have T0 := Lib.hid T
  have H0 := Lib.hid h0
  have H1 := Lib.hid h1
  obtain ⟨A0, cap0, rfl, -, -⟩ := h0
  obtain ⟨A1, cap1, rfl, -, -⟩ := h1
  clear T
  go_enter Tryd.func42, Tryd.ntmps42
  go_wp2_with fail
  have y := Whole.new w 32 #[.slice A0 l0.length cap0, .slice A1 l1.length cap1]
  have b : Below w.heap.size w (w.alloc (.cells #[.slice A0 l0.length cap0, .slice A1 l1.length cap1] 32)) := (Below.refl _ _).alloc (Nat.le_refl _) _
  generalize w.alloc (.cells #[.slice A0 l0.length cap0, .slice A1 l1.length cap1] 32) = w1 at *
  refine (concat_any _ _ _ l0 l1 w1 (y.at_ 0) (y.at_ 1) (H0.out.below b) (H1.out.below b) (by omega) (by omega)).mono ?_
  rintro e w2 ⟨v2, rfl, y2, b2⟩
  have B2 := Lib.hid (b.trans (b2.mono b.size))
  have Y2 := Lib.hid y2
  clear y b b2 y2
  go_wp2_with fail
  refine (sum_own v2 (l0 ++ l1) (by simp; omega) w2 Y2.out (T0.out.below B2.out T0.out.pos)).mono ?_
  rintro e w3 ⟨v3, rfl, y3, b3⟩
  have B3 := Lib.hid (B2.out.trans (b3.mono B2.out.size))
  have Y3 : Hid (w3.ownsRow w.heap.size 5 1 v3 (sumL (l0 ++ l1)).length (bv (sumL (l0 ++ l1)))) := own_less y3 B2.out.size
  clear y3 b3 B2 Y2
  go_wp2
  go_ret
  exact ⟨_, rfl, Y3.out, B3.out⟩
theorem two_any (v0 v1 : Value) (l0 l1 : List UInt8) (hl0 : l0.length ≤ 2500) (hl1 : l1.length ≤ 2500) (w : World) (h0 : BytesAt w v0 l0) (h1 : BytesAt w v1 l1) (T : Tab w) :
    Calls Tryd.prog 42 #[v0, v1] w fun e w' => ∃ v', e = .returned v' ∧ BytesAt w' v' (sumL (l0 ++ l1)) ∧ Below w.heap.size w w' :=
  (two_own v0 v1 l0 l1 (by omega) w h0 h1 T).mono fun _ _ ⟨v', he, ho, hb⟩ => ⟨v', he, BytesAt.of_own ho, hb⟩
end Go.Proofs.YtieidemmajdpmaaDoor

namespace Go.Proofs.YtieidemmajdpmaaDoor
set_option maxRecDepth 100000

/-- Every bit that one of them has. -/
def orAll (l : List UInt8) : UInt8 := l.foldl (· ||| ·) 0
theorem orAll_snoc (l : List UInt8) (c : UInt8) : orAll (l ++ [c]) = orAll l ||| c := by simp [orAll]
theorem or_zero (a b : UInt8) : a ||| b = 0 ↔ a = 0 ∧ b = 0 := by
  constructor
  · intro h
    have hb : a.toBitVec ||| b.toBitVec = 0#8 := by
      have := congrArg UInt8.toBitVec h
      simpa using this
    have h1 : a.toBitVec = 0#8 := by
      apply BitVec.eq_of_getLsbD_eq
      intro i hi
      have := congrArg (fun x => BitVec.getLsbD x i) hb
      simp at this ⊢
      exact this.1
    have h2 : b.toBitVec = 0#8 := by
      apply BitVec.eq_of_getLsbD_eq
      intro i hi
      have := congrArg (fun x => BitVec.getLsbD x i) hb
      simp at this ⊢
      exact this.2
    exact ⟨UInt8.toBitVec_inj.1 h1, UInt8.toBitVec_inj.1 h2⟩
  · rintro ⟨rfl, rfl⟩
    decide
theorem orAll_from (l : List UInt8) : ∀ a : UInt8, l.foldl (· ||| ·) a = 0 ↔ a = 0 ∧ ∀ c ∈ l, c = 0 := by
  induction l with
  | nil => intro a; simp
  | cons c l ih =>
    intro a
    rw [List.foldl_cons, ih, or_zero]
    simp [and_assoc]
theorem orAll_zero (l : List UInt8) : orAll l = 0 ↔ ∀ c ∈ l, c = 0 := by
  rw [orAll, orAll_from]
  simp
theorem or_cell (a b : UInt8) : bits .or .u8 (a.toNat : Int) (b.toNat : Int) = ((a ||| b).toNat : Int) := by
  rw [u8_or_nat _ _ a.toNat_lt b.toNat_lt, UInt8.toNat_or]
theorem xor_cell (a b : UInt8) : bits .xor .u8 (a.toNat : Int) (b.toNat : Int) = ((a ^^^ b).toNat : Int) := by
  rw [u8_xor_nat _ _ a.toNat_lt b.toNat_lt, UInt8.toNat_xor]

/-- Of each place that both have, the exclusive-or. -/
def xorL (a b : List UInt8) : List UInt8 := List.zipWith (· ^^^ ·) a b
theorem xorL_length (a b : List UInt8) : (xorL a b).length = min a.length b.length := by simp [xorL]
theorem xorL_at (a b : List UInt8) (j : Nat) (x y : UInt8) (hx : a[j]? = some x) (hy : b[j]? = some y) : (xorL a b)[j]? = some (x ^^^ y) := by simp [xorL, List.getElem?_zipWith, hx, hy]
theorem xor_self_left (x y : UInt8) : x ^^^ (x ^^^ y) = y := by simp [← UInt8.xor_assoc]
theorem xor_zero_iff (x y : UInt8) : x ^^^ y = 0 ↔ x = y := UInt8.xor_eq_zero_iff
/-- Alike just if none differs. -/
theorem xorL_zero (a : List UInt8) : ∀ b : List UInt8, a.length = b.length → ((∀ c ∈ xorL a b, c = 0) ↔ a = b) := by
  induction a with
  | nil => intro b h; cases b <;> simp_all [xorL]
  | cons x a ih =>
    intro b h
    cases b with
    | nil => simp at h
    | cons y b =>
      have := ih b (by simpa using h)
      simp only [xorL, List.zipWith_cons_cons, List.mem_cons, forall_eq_or_imp, xor_zero_iff, List.cons.injEq]
      rw [← this]
      rfl
/-- Twice is nothing. -/
theorem xorL_back_left (a : List UInt8) : ∀ b : List UInt8, xorL (xorL a b) (a.take (min a.length b.length)) = b.take (min a.length b.length) := by
  induction a with
  | nil => intro b; simp [xorL]
  | cons x a ih =>
    intro b
    cases b with
    | nil => simp [xorL]
    | cons y b =>
      have h := ih b
      simp only [xorL, List.length_cons, Nat.add_min_add_right, List.take_succ_cons, List.zipWith_cons_cons, List.cons.injEq] at h ⊢
      refine ⟨?_, h⟩
      rw [UInt8.xor_comm x y, UInt8.xor_assoc]
      simp
theorem xorL_back_right (a : List UInt8) : ∀ b : List UInt8, xorL (xorL a b) (b.take (min a.length b.length)) = a.take (min a.length b.length) := by
  induction a with
  | nil => intro b; simp [xorL]
  | cons x a ih =>
    intro b
    cases b with
    | nil => simp [xorL]
    | cons y b =>
      have h := ih b
      simp only [xorL, List.length_cons, Nat.add_min_add_right, List.take_succ_cons, List.zipWith_cons_cons, List.cons.injEq] at h ⊢
      refine ⟨?_, h⟩
      rw [UInt8.xor_assoc]
      simp

/-- The first k of f, and zeros behind: how far a row of n has been written. -/
def doneTo (f : List UInt8) (n k : Nat) : List UInt8 := f.take k ++ List.replicate (n - k) 0
theorem doneTo_length (f : List UInt8) (n k : Nat) (hf : f.length = n) (hk : k ≤ n) : (doneTo f n k).length = n := by simp [doneTo]; omega
theorem doneTo_zero (f : List UInt8) (n : Nat) : doneTo f n 0 = List.replicate n 0 := by simp [doneTo]
theorem doneTo_all (f : List UInt8) (n : Nat) (hf : f.length = n) : doneTo f n n = f := by simp [doneTo, ← hf]
theorem doneTo_set (f : List UInt8) (n k : Nat) (c : UInt8) (hf : f.length = n) (hk : f[k]? = some c) : (bv (doneTo f n k)).set k (.int .u8 (c.toNat : Int)) = bv (doneTo f n (k + 1)) := by
  have hlt : k < f.length := (List.getElem?_eq_some_iff.1 hk).1
  rw [doneTo, doneTo, take_at hk]
  have e1 : n - k = (n - (k + 1)) + 1 := by omega
  rw [e1, List.replicate_succ]
  simp only [bv, List.map_append, List.map_cons, List.append_assoc, List.cons_append, List.nil_append]
  rw [List.set_append_right _ _ (by simp; omega)]
  have e2 : k - (List.map (fun c : UInt8 => Value.int IntKind.u8 ↑c.toNat) (List.take k f)).length = 0 := by simp; omega
  rw [e2]
  rfl
theorem doneTo_put (f : List UInt8) (n k : Nat) (c : UInt8) (hf : f.length = n) (hk : f[k]? = some c) : (doneTo f n k).set k c = doneTo f n (k + 1) := by
  have hlt : k < f.length := (List.getElem?_eq_some_iff.1 hk).1
  rw [doneTo, doneTo, take_at hk]
  have e1 : n - k = (n - (k + 1)) + 1 := by omega
  have e2 : (f.take k).length = k := by simp; omega
  rw [e1, List.replicate_succ, List.set_append_right _ _ (by omega), e2, Nat.sub_self]
  simp
end Go.Proofs.YtieidemmajdpmaaDoor

namespace Go.Proofs.YtieidemmajdpmaaDoor
set_option maxRecDepth 100000
open Go.RowKit

theorem xorB_at (c : UInt8) (l : List UInt8) (k : Nat) (x : UInt8) (h : l[k]? = some x) : (xorB c l)[k]? = some (x ^^^ c) := by simp [xorB, h]

set_option maxHeartbeats 1000000 in
theorem blend_any (v : Value) (l : List UInt8) (x : UInt8) (w : World) (h : BytesAt w v l) (hl : l.length ≤ 1000000) :
    Calls Tryd.prog 43 #[v, .int .u8 (x.toNat : Int)] w fun e w' => ∃ v', e = .returned v' ∧ BytesAt w' v' (xorB x l) ∧ Below w.heap.size w w' := by
  obtain ⟨i0, hi0, hz0, hz1, hz2⟩ := info_parts byte_info
  have H0 := Lib.hid h
  obtain ⟨A0, cap0, rfl, hcap0, -⟩ := h
  obtain ⟨n, hn⟩ : ∃ n, n = l.length := ⟨_, rfl⟩
  have HF : Hid ((xorB x l).length = n) := by rw [xorB_length, hn]; exact rfl
  rw [← hn] at hl H0 hcap0 ⊢
  have HN := Lib.hid hn
  clear hn
  go_enter Tryd.func43, Tryd.ntmps43
  go_wp2_with (at_make; refine wpList_make_full _ rfl (.tmp 9) (.tmp 9) 32 rfl w.heap.size 5 i0 (.int .u8 0) 1 Tryd.underlying32 hi0 hz0 hz1 .i64 .i64 _ _ n rfl rfl ?c1 ?c2 ?c3 ?c4 ?c5 ?_)
  case c1 => rfl
  case c2 => rfl
  case c3 => rw [hz2]; omega
  case c4 => simp only [maxLen]; omega
  case c5 => exact Nat.le_refl _
  intro w1 ho1 hg1
  rw [made_bytes, ← doneTo_zero (xorB x l) n] at ho1
  have hb1 : Below w.heap.size w w1 := (Below.refl _ _).grown hg1 (Nat.le_refl _) (fun k hk => by cases hk)
  have HO1 := Lib.hid ho1
  have HB1 := Lib.hid hb1
  clear ho1 hg1 hb1
  go_wp2_with fail
  go_loopw [13] (fun i wr => ∃ k : Nat, k ≤ n ∧ i = .int .i64 k ∧ wr.ownsRow w.heap.size 5 1 (.slice (some ⟨w.heap.size, 0, none⟩) n n) n (bv (doneTo (xorB x l) n k)) ∧ Below w.heap.size w wr) (fun i _ => n - (intOf i).toNat)
  case atStart => exact ⟨0, Nat.zero_le _, rfl, HO1.out, HB1.out⟩
  case round =>
    obtain ⟨k, hk, rfl, ho, hbel⟩ := hrel
    have HO := Lib.hid ho
    have HBe := Lib.hid hbel
    have zr := hbel.size
    clear ho hbel
    by_cases hkn : k < n
    · have hk0 : k < l.length := by have := HN.out; omega
      obtain ⟨b0, off0, rfl, hb0, hcell0⟩ := H0.out.spots (by rintro rfl; simp at hk0)
      have hx0 : l[k]? = some l[k] := List.getElem?_eq_getElem hk0
      have c0 : wr.cell? ⟨b0, off0 + k, none⟩ = some (.int .u8 (l[k].toNat : Int)) := (HBe.out.cell (p := ⟨b0, off0 + k, none⟩) hb0).trans (hcell0 k _ hx0)
      have HS := Lib.hid (doneTo_set (xorB x l) n k _ HF.out (xorB_at x l k _ hx0))
      have HX := Lib.hid (xor_cell l[k] x)
      have c2 := HO.out.cellAt k (by omega)
      have f2 := HO.out.frozenAt k
      have hlen : k < (bv (doneTo (xorB x l) n k)).length := by rw [bv_length, doneTo_length _ _ _ HF.out hk]; exact hkn
      rw [List.getElem?_eq_getElem hlen] at c2
      generalize (bv (doneTo (xorB x l) n k))[k] = old at c2
      generalize l[k] = x0 at *
      clear hx0 hcell0 hlen
      go_wp2
      refine ⟨⟨k + 1, by omega, by go_num, ?_, HBe.out.setCell (Nat.le_refl _) _⟩, by simp [intOf]; omega⟩
      have q := HO.out.stored k (.int .u8 ((x0 ^^^ x).toNat : Int))
      rw [HS.out] at q
      rw [HX.out]
      exact q.1
    · obtain rfl : k = n := by omega
      have ho := HO.out
      rw [doneTo_all _ _ HF.out] at ho
      have hy : BytesAt wr (.slice (some ⟨w.heap.size, 0, none⟩) k k) (xorB x l) := by
        apply BytesAt.of_own (base := w.heap.size)
        rw [HF.out]
        exact ho
      have HY := Lib.hid hy
      clear ho hy
      go_wp2
      go_ret
      exact ⟨_, rfl, HY.out, HBe.out⟩

theorem bytes_of_whole {w : World} {g : Nat} {l : List UInt8} {n cap : Nat} (h : w.heap[g]? = some (.cells (bv l).toArray 5 (0, 0))) (hn : n = l.length) (hc : n ≤ cap) : BytesAt w (.slice (some ⟨g, 0, none⟩) n cap) l := by
  subst hn
  refine ⟨_, _, rfl, hc, fun _ => ⟨_, rfl, fun j c hj => ?_⟩⟩
  have ha : (⟨g, 0, none⟩ : Addr).add j = ⟨g, j, none⟩ := by unfold Addr.add; split <;> simp_all
  rw [ha, Whole.at_ (t := 5) (cs := (bv l).toArray) h j]
  simp [bv, hj]
theorem whole_of_own {w : World} {base g n : Nat} {xs : List Value} (h : w.ownsRow base 5 1 (.slice (some ⟨g, 0, none⟩) n n) n xs) : w.heap[g]? = some (.cells xs.toArray 5 (0, 0)) := by
  rcases h.2 with ⟨h1, -⟩ | ⟨g', cap, cur, h1, -, h3, -, -, h6, h7⟩
  · cases h1
  · injection h1 with h1 _ h2
    injection h1 with h1
    injection h1 with h1
    subst h1 h2
    rw [h3, ← h7, List.take_of_length_le (by simp; omega)]
theorem zero_splice (n : Nat) (b : List UInt8) : splice (bv (List.replicate n 0)) 0 (bv b) = bv (b ++ List.replicate (n - b.length) 0) := by
  simp [splice, bv]
theorem key_splice (l : List UInt8) (b : List UInt8) (hb : b = baseL l) : splice (bv (List.replicate 64 0)) 0 (bv b) = bv (keyL l) := by
  subst hb
  exact zero_splice 64 _
theorem run_copy_bytes (w : World) (ty : TypeId) (g n cap : Nat) (L : List UInt8) (src : Value) (l : List UInt8) (hg : w.heap[g]? = some (.cells (bv L).toArray 5 (0, 0))) (hL : L.length = n) (hs : BytesAt w src l) (hl : l.length ≤ n) (B : Nat) (hB : B ≤ g) :
    ∃ w', (Builtin.copy_ #[32, 32] ty #[.slice (some ⟨g, 0, none⟩) n cap, src]).run Tryd.prog w = .ok (goInt l.length) w' ∧ w'.heap[g]? = some (.cells (splice (bv L) 0 (bv l)).toArray 5 (0, 0)) ∧ Below B w w' := by
  have bs : (Tryd.prog.info? 5).map (·.size) = some 1 := by kernel_rfl
  obtain ⟨A, c, rfl, -, hc⟩ := hs
  by_cases h0 : l = []
  · subst h0
    refine ⟨w, run_copy_none (P := Tryd.prog) w 32 32 ty 5 _ _ _ _ _ _ Tryd.underlying32 bs (by simp), ?_, Below.refl _ _⟩
    simpa [splice, bv] using hg
  · obtain ⟨ad, rfl, hcell⟩ := hc h0
    have q := run_copy_row (P := Tryd.prog) w 32 32 ty 5 g 0 n cap ad l.length c (bv L).toArray 5 (bv l) Tryd.underlying32 bs hg (by rw [bv_length]; exact (Nat.min_eq_left hl).symm) (fun j v hj => by
      simp only [bv, List.getElem?_map, Option.map_eq_some_iff] at hj
      obtain ⟨x, hx, rfl⟩ := hj
      exact hcell j x hx) (by simp [bv_length]; omega) (bv_one l)
    rw [bv_length] at q
    refine ⟨_, q, ?_, below_setRow (Below.refl _ _) hB _⟩
    have q2 := setRow_heap w g _ ((bv L).toArray.toList.take 0 ++ bv l ++ (bv L).toArray.toList.drop (0 + l.length)).toArray 5 _ hg
    simpa [splice, bv_length] using q2

set_option maxHeartbeats 1000000 in
theorem key_any (v : Value) (l : List UInt8) (w : World) (h : BytesAt w v l) (hl : l.length ≤ 5000) (T : Tab w) :
    Calls Tryd.prog 41 #[v] w fun e w' => ∃ v', e = .returned v' ∧ BytesAt w' v' (keyL l) ∧ Below w.heap.size w w' := by
  obtain ⟨i0, hi0, hz0, hz1, hz2⟩ := info_parts byte_info
  have T0 := Lib.hid T
  have H0 := Lib.hid h
  obtain ⟨A0, cap0, rfl, hcap0, -⟩ := h
  clear T
  by_cases h64 : l.length ≤ 64
  · have d : decide ((64 : Int) < (l.length : Int)) = false := by simp; omega
    have HK := Lib.hid (key_splice l l (by rw [baseL, if_pos h64]))
    go_enter Tryd.func41, Tryd.ntmps41
    go_wp2_with (at_make; refine wpList_make_full _ rfl _ _ 32 rfl w.heap.size 5 i0 (.int .u8 0) 1 Tryd.underlying32 hi0 hz0 hz1 .i64 .i64 _ _ 64 rfl rfl rfl rfl (by rw [hz2]; decide) (by simp [maxLen]) (Nat.le_refl _) ?_)
    intro w1 ho1 hg1
    rw [made_bytes] at ho1
    have HB1 := Lib.hid ((Below.refl w.heap.size w).grown hg1 (Nat.le_refl _) (fun k hk => by cases hk))
    have HG1 := Lib.hid (whole_of_own ho1)
    have H1 := Lib.hid (H0.out.below HB1.out)
    clear ho1 hg1
    obtain ⟨w2, hr, hg2, hb2⟩ := run_copy_bytes w1 3 w.heap.size 64 64 (List.replicate 64 0) _ l HG1.out (List.length_replicate ..) H1.out h64 w.heap.size (Nat.le_refl _)
    have HB2 := Lib.hid (HB1.out.trans (hb2.mono (Nat.le_refl _)))
    rw [HK.out] at hg2
    have HY := Lib.hid (bytes_of_whole (n := 64) (cap := 64) hg2 (keyL_length l).symm (Nat.le_refl _))
    clear hb2 hg2
    go_wp2
    go_ret
    exact ⟨_, rfl, HY.out, HB2.out⟩
  · have d : decide ((64 : Int) < (l.length : Int)) = true := by simp; omega
    have HK := Lib.hid (key_splice l (sumL l) (by rw [baseL, if_neg h64]))
    have SL := sumL_length l
    have SH := Lib.hid SL
    go_enter Tryd.func41, Tryd.ntmps41
    go_wp2_with fail
    refine (sum_any _ l (Nat.le_trans hl (by decide)) w H0.out T0.out).mono ?_
    rintro e w0 ⟨v0, rfl, y0, b0⟩
    have HB0 := Lib.hid b0
    have HY0 := Lib.hid y0
    obtain ⟨A1, cap1, rfl, -, -⟩ := y0
    clear b0
    rw [SL]
    go_wp2_with (at_make; refine wpList_make_full _ rfl _ _ 32 rfl w0.heap.size 5 i0 (.int .u8 0) 1 Tryd.underlying32 hi0 hz0 hz1 .i64 .i64 _ _ 64 rfl rfl rfl rfl (by rw [hz2]; decide) (by simp [maxLen]) (Nat.le_refl _) ?_)
    intro w1 ho1 hg1
    rw [made_bytes] at ho1
    have HB1 := Lib.hid ((Below.refl w0.heap.size w0).grown hg1 (Nat.le_refl _) (fun k hk => by cases hk))
    have HG1 := Lib.hid (whole_of_own ho1)
    have H1 := Lib.hid (HY0.out.below HB1.out)
    clear ho1 hg1
    obtain ⟨w2, hr, hg2, hb2⟩ := run_copy_bytes w1 3 w0.heap.size 64 64 (List.replicate 64 0) _ (sumL l) HG1.out (List.length_replicate ..) H1.out (by rw [SL]; decide) w0.heap.size (Nat.le_refl _)
    rw [SL] at hr
    have HB2 := Lib.hid (HB0.out.trans ((HB1.out.trans hb2).mono HB0.out.size))
    rw [HK.out] at hg2
    have HY := Lib.hid (bytes_of_whole (n := 64) (cap := 64) hg2 (keyL_length l).symm (Nat.le_refl _))
    clear hb2 hg2
    go_wp2
    go_ret
    exact ⟨_, rfl, HY.out, HB2.out⟩
set_option maxHeartbeats 1000000 in
theorem mac_own (v0 v1 : Value) (k m : List UInt8) (w : World) (h0 : BytesAt w v0 k) (h1 : BytesAt w v1 m) (hk : k.length ≤ 5000) (hm : m.length ≤ 90000) (T : Tab w) :
    Calls Tryd.prog 34 #[v0, v1] w fun e w' => ∃ v', e = .returned v' ∧ w'.ownsRow w.heap.size 5 1 v' (macL k m).length (bv (macL k m)) ∧ Below w.heap.size w w' := by
  have T0 := Lib.hid T
  have H0 := Lib.hid h0
  have H1 := Lib.hid h1
  have X1 : Hid ((xorB 54 (keyL k)).length = 64) := by rw [xorB_length]; exact keyL_length k
  have X2 : Hid ((xorB 92 (keyL k)).length = 64) := by rw [xorB_length]; exact keyL_length k
  have KL := Lib.hid (keyL_length k)
  have ML : Hid (macL k m = sumL (xorB 92 (keyL k) ++ sumL (xorB 54 (keyL k) ++ m))) := Lib.hid rfl
  have SL := Lib.hid (sumL_length (xorB 54 (keyL k) ++ m))
  obtain ⟨A0, cap0, rfl, hcap0, -⟩ := h0
  obtain ⟨A1, cap1, rfl, hcap1, -⟩ := h1
  clear T
  generalize macL k m = M at *
  go_enter Tryd.func34, Tryd.ntmps34
  go_wp2_with fail
  refine (key_any _ k w H0.out hk T0.out).mono ?_
  rintro e w1 ⟨v1, rfl, y1, b1⟩
  have B1 := Lib.hid b1
  have Y1 := Lib.hid y1
  clear y1 b1
  generalize keyL k = K1 at *
  go_wp2_with fail
  refine (blend_any v1 K1 54 w1 Y1.out (by have := KL.out; omega)).mono ?_
  rintro e w2 ⟨v2, rfl, y2, b2⟩
  have B2 := Lib.hid (B1.out.trans (b2.mono B1.out.size))
  have Y2 := Lib.hid y2
  have Y1' := Lib.hid (Y1.out.below b2)
  clear y2 b2 Y1
  generalize xorB 54 K1 = I1 at *
  go_wp2_with fail
  refine (two_own v2 _ I1 m (by have := X1.out; omega) w2 Y2.out (H1.out.below B2.out) (T0.out.below B2.out T0.out.pos)).mono ?_
  rintro e w3 ⟨v3, rfl, y3, b3⟩
  have B3 := Lib.hid (B2.out.trans (b3.mono B2.out.size))
  have Y3 := Lib.hid (BytesAt.of_own y3)
  have Y13 := Lib.hid (Y1'.out.below b3)
  clear y3 b3 Y1' Y2
  generalize sumL (I1 ++ m) = S1 at *
  go_wp2_with fail
  refine (blend_any v1 K1 92 w3 Y13.out (by have := KL.out; omega)).mono ?_
  rintro e w4 ⟨v4, rfl, y4, b4⟩
  have B4 := Lib.hid (B3.out.trans (b4.mono B3.out.size))
  have Y4 := Lib.hid y4
  have Y34 := Lib.hid (Y3.out.below b4)
  clear y4 b4 Y3 Y13
  generalize xorB 92 K1 = O1 at *
  go_wp2_with fail
  refine (two_own v4 v3 O1 S1 (by have := X2.out; have := SL.out; omega) w4 Y4.out Y34.out (T0.out.below B4.out T0.out.pos)).mono ?_
  rintro e w5 ⟨v5, rfl, y5, b5⟩
  rw [← ML.out] at y5
  have B5 := Lib.hid (B4.out.trans (b5.mono B4.out.size))
  have Y5 : Hid (w5.ownsRow w.heap.size 5 1 v5 M.length (bv M)) := own_less y5 B4.out.size
  clear y5 b5
  go_wp2
  go_ret
  exact ⟨_, rfl, Y5.out, B5.out⟩

theorem mac_any (v0 v1 : Value) (k m : List UInt8) (w : World) (h0 : BytesAt w v0 k) (h1 : BytesAt w v1 m) (hk : k.length ≤ 5000) (hm : m.length ≤ 90000) (T : Tab w) :
    Calls Tryd.prog 34 #[v0, v1] w fun e w' => ∃ v', e = .returned v' ∧ BytesAt w' v' (macL k m) ∧ Below w.heap.size w w' :=
  (mac_own v0 v1 k m w h0 h1 hk hm T).mono fun _ _ ⟨v', he, ho, hb⟩ => ⟨v', he, BytesAt.of_own ho, hb⟩
end Go.Proofs.YtieidemmajdpmaaDoor
