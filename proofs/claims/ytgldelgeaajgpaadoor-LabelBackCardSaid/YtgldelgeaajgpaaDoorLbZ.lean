/- Package label, as landed: ReadBytes. -/
import Derived.Test.YtgldelgeaajgpaaDoorLbO
namespace Go.Proofs.YtgldelgeaajgpaaDoor
open Go.RowKit

theorem two_head (a b : UInt8) (r : List UInt8) : (⟨(a :: b :: r).toArray⟩ : ByteArray).extract 0 2 = ⟨[a, b].toArray⟩ := str_take [a, b] r
theorem two_rest (a b : UInt8) (r : List UInt8) (n : Nat) (hn : n = r.length + 2) : (⟨(a :: b :: r).toArray⟩ : ByteArray).extract 2 n = ⟨r.toArray⟩ := by
  subst hn
  have h := str_drop [a, b] r
  rw [str_size] at h
  have e : ([a, b] ++ r).length = r.length + 2 := by simp
  rw [e] at h
  exact h
theorem two_hex (a b : UInt8) : allHex [a, b] = (decide (digN a < 16) && decide (digN b < 16)) := by simp [allHex]
theorem two_val (a b : UInt8) (h : allHex [a, b] = true) : rdA [a, b] = 16 * digN a + digN b := by
  rw [rdA, if_pos h]
  simp [ofHex]
  omega

set_option maxRecDepth 100000 in
set_option maxHeartbeats 4000000 in
theorem labelReadBytes_any (l : List UInt8) (hn : l.length ≤ 100000) (w : World) :
    Calls Tryd.prog 23 #[.string ⟨l.toArray⟩] w fun e w' => ∃ v', e = .returned (.tuple #[v', .bool (rbB l)]) ∧ BytesAt w' v' (rbA l) ∧ Below w.heap.size w w' := by
  by_cases h45 : l = [45]
  · subst h45
    have e1 : rbB [45] = true := rfl
    have e2 : rbA [45] = [] := rfl
    rw [e1, e2]
    go_enter Tryd.func23, Tryd.ntmps23
    go_wp2
    go_ret2
    exact ⟨_, rfl, BytesAt.lit w [] _ rfl, (Below.refl _ _).alloc (Nat.le_refl _) _⟩
  · have d0 : (l == [45]) = false := by rw [beq_eq_false_iff_ne]; exact h45
    by_cases hb : l.length = 0 ∨ l.length % 2 = 1 ∨ 8192 < l.length
    · obtain ⟨e1, e2⟩ := rb_bad l h45 hb
      rw [e1, e2]
      clear e1 e2 h45
      obtain ⟨n, hnn⟩ : ∃ n, n = l.length := ⟨_, rfl⟩
      rw [← hnn] at hb hn
      have rn : l.length = n := hnn.symm
      obtain ⟨q, hq⟩ : ∃ q, q = n % 2 := ⟨_, rfl⟩
      have hd : (((n : Int) == 0) = true) ∨ (((n : Int) == 0) = false ∧ ((q : Int) != 0) = true) ∨ (((n : Int) == 0) = false ∧ ((q : Int) != 0) = false ∧ decide ((8192 : Int) < (n : Int)) = true) := by
        simp only [beq_iff_eq, beq_eq_false_iff_ne, ne_eq, decide_eq_true_eq, bne_iff_ne, bne_eq_false_iff_eq]
        omega
      have r1 : (n : Int) % 2 = (q : Int) := by omega
      clear hb hq hnn
      rcases hd with d1 | ⟨d1, d2⟩ | ⟨d1, d2, d3⟩
      all_goals
        go_enter Tryd.func23, Tryd.ntmps23
        go_wp2
        go_ret2
        exact ⟨_, rfl, BytesAt.nil _, Below.refl _ _⟩
    · obtain ⟨e1, e2⟩ := rb_unpair l h45 hb
      rw [e1, e2]
      clear e1 e2
      obtain ⟨n, hnn⟩ : ∃ n, n = l.length := ⟨_, rfl⟩
      have LN := Lib.hid hnn
      have rn : l.length = n := hnn.symm
      rw [← hnn] at hb hn
      obtain ⟨q, hq⟩ : ∃ q, q = n % 2 := ⟨_, rfl⟩
      obtain ⟨m, hm⟩ : ∃ m, m = n / 2 := ⟨_, rfl⟩
      have r1 : (n : Int) % 2 = (q : Int) := by omega
      have r2 : (n : Int) / 2 = (m : Int) := by omega
      have r3 : wrap64 (m : Int) = (m : Int) := by unfold wrap64; omega
      have d1 : ((n : Int) == 0) = false := by rw [beq_eq_false_iff_ne]; omega
      have d2 : ((q : Int) != 0) = false := by rw [bne_eq_false_iff_eq]; omega
      have d3 : decide ((8192 : Int) < (n : Int)) = false := by rw [decide_eq_false_iff_not]; omega
      obtain ⟨w1, hr0, ho, hb'⟩ := made_own_room w 0 m (Nat.zero_le _) (by omega)
      have hr : (Instr.makeSlice 26 (.int .i64 0) (.int .i64 (m : Int))).run Tryd.prog w = .ok (.slice (some ⟨w.heap.size, 0, none⟩) 0 m) w1 := hr0
      have O1 := Lib.hid ho
      have B1 := Lib.hid hb'
      have HN := Lib.hid (show n ≤ 8192 ∧ n % 2 = 0 by omega)
      clear hb hq hm hnn hn h45 hr0 ho hb'
      go_enter Tryd.func23, Tryd.ntmps23
      go_wp2_with fail
      clear d0 d1 d2 d3 r1 r2 r3 hr rn
      go_loopw [0, 4] (fun s v wr => ∃ (p r out : List UInt8), l = p ++ r ∧ p.length = 2 * out.length ∧ s = .string ⟨r.toArray⟩ ∧ unpair p = some out ∧ wr.ownsRow w.heap.size 5 1 v out.length (bv out) ∧ Below w.heap.size w wr) (fun s _ _ => match s with | .string b => b.size | _ => 0)
      case atStart => exact ⟨[], l, [], rfl, rfl, rfl, rfl, O1.out, B1.out⟩
      case round =>
        obtain ⟨p, r, out, hl, hpl, rfl, hup, ho, hb⟩ := hrel
        obtain ⟨Ao, co, rfl⟩ := own_form ho
        have HO := Lib.hid ho
        have HB := Lib.hid hb
        have HU := Lib.hid hup
        have HL := Lib.hid (And.intro hl hpl)
        have hlen := congrArg List.length hl
        rw [List.length_append] at hlen
        have LEN : Hid (n = p.length + r.length) := Lib.hid (LN.out.trans hlen)
        clear ho hb hup hl hpl hlen
        match r, HL, LEN with
        | [], HL, LEN =>
          have U : Hid (unpair l = some out) := Lib.hid (by rw [HL.out.1, List.append_nil]; exact HU.out)
          have Y : Hid (BytesAt wr (.slice Ao out.length co) out) := Lib.hid (BytesAt.of_own (base := w.heap.size) HO.out)
          clear HO HL
          go_wp2
          go_ret2
          exact ⟨_, by rw [U.out]; rfl, by rw [U.out]; exact Y.out, HB.out⟩
        | [x], HL, LEN =>
          have h1 := LEN.out
          have h2 := HL.out.2
          have h3 := HN.out.2
          simp at h1
          omega
        | a :: b :: r, HL, LEN =>
          obtain ⟨z, hz⟩ : ∃ z, z = r.length + 2 := ⟨_, rfl⟩
          have rl : (a :: b :: r).length = z := by simp [hz]
          have dz : decide (0 < (z : Int)) = true := by simp; omega
          have ez1 := two_head a b r
          have ez2 := two_rest a b r z hz
          have j2 : (2 : Int) ≤ (z : Int) := by omega
          have j2n : 2 ≤ z := by omega
          have CD := Lib.hid (fun w => readDigits_any [a, b] (by simp) w)
          have UN := fun h => Lib.hid (unpair_none p r out a b HU.out h)
          have US := Lib.hid (unpair_snoc p out a b HU.out)
          rw [← HL.out.1] at UN
          have la := digN_le a
          have lb := digN_le b
          have HZ := Lib.hid hz
          obtain ⟨rr, hrr⟩ : ∃ rr, rr = a :: b :: r := ⟨_, rfl⟩
          obtain ⟨ab, hab⟩ : ∃ ab, ab = [a, b] := ⟨_, rfl⟩
          simp only [← hab] at CD ez1
          simp only [← hrr] at ez1 ez2 rl
          have HRR := Lib.hid hrr
          simp only [← hrr]
          cases hq : allHex ab with
          | false =>
            have hbad : digN a = 16 ∨ digN b = 16 := by
              rw [hab, two_hex, Bool.and_eq_false_iff, decide_eq_false_iff_not, decide_eq_false_iff_not] at hq
              omega
            have U := UN hbad
            simp only [hq] at CD
            clear UN US la lb hz hrr hab hq hbad
            go_wp2_with fail
            refine (CD.out _).mono ?_
            rintro e w2 ⟨rfl, rfl⟩
            go_wp2
            go_ret2
            exact ⟨_, by rw [U.out]; rfl, by rw [U.out]; exact BytesAt.nil _, HB.out⟩
          | true =>
            have hv := two_val a b (by rw [← hab]; exact hq)
            rw [← hab] at hv
            have hgood : ¬ (digN a = 16 ∨ digN b = 16) := by
              rw [hab, two_hex, Bool.and_eq_true, decide_eq_true_eq, decide_eq_true_eq] at hq
              omega
            obtain ⟨x, hx⟩ : ∃ x, x = UInt8.ofNat (16 * digN a + digN b) := ⟨_, rfl⟩
            have US2 := US.out
            rw [if_neg hgood, ← hx] at US2
            have HU2 := Lib.hid US2
            simp only [hq] at CD
            obtain ⟨y, hy⟩ : ∃ y, y = rdA ab := ⟨_, rfl⟩
            simp only [← hy] at CD
            have s3 : IntKind.u8.wrap (y : Int) = (x.toNat : Int) := by
              rw [IntWalk.u8_in _ (by omega), hx]
              simp
              omega
            have HP : Hid (l = (p ++ [a, b]) ++ r ∧ (p ++ [a, b]).length = 2 * (out ++ [x]).length) := Lib.hid (by
              refine ⟨by rw [List.append_assoc]; exact HL.out.1, ?_⟩
              rw [List.length_append, HL.out.2]
              simp
              omega)
            have RS : Hid ((⟨r.toArray⟩ : ByteArray).size < (⟨rr.toArray⟩ : ByteArray).size) := Lib.hid (by
              show r.toArray.size < rr.toArray.size
              rw [HRR.out]
              simp
              omega)
            clear UN US US2 la lb hz hrr hab hq hgood hv hx hy
            go_wp2_with fail
            refine (CD.out _).mono ?_
            rintro e w2 ⟨rfl, rfl⟩
            have z1 : BytesAt (wr.alloc (.cells #[.int .u8 (x.toNat : Int)] 5)) (.slice (some ⟨wr.heap.size, 0, none⟩) 1 1) [x] := BytesAt.lit wr [x] _ rfl
            have hO1 := HO.out.alloc (.cells #[.int .u8 (x.toNat : Int)] 5)
            have hB1 := HB.out.alloc HB.out.size (.cells #[.int .u8 (x.toNat : Int)] 5)
            clear HO HB CD
            go_wp2_with (with_reducible refine wpList_append_bytes rfl _ _ rfl w.heap.size _ _ _ ?hv hO1 _ _ ?hx z1 ?hlen ?hbase ?_)
            case hv => exact rfl
            case hx => exact rfl
            case hlen => have := HL.out.2; have := LEN.out; have := HN.out.1; simp; omega
            case hbase => simpa using hB1.size
            intro v8 w3 ho3 hg3
            have lt3 := hO1.lt
            have B3 := Lib.hid (hB1.grown hg3 hB1.size (fun k hk => (lt3 k hk).1))
            have O3 : Hid (w3.ownsRow w.heap.size 5 1 v8 (out ++ [x]).length (bv (out ++ [x]))) := Lib.hid (by rw [bv_append, List.length_append]; exact ho3)
            clear lt3 hg3 ho3 hO1 hB1 z1 s3
            go_wp2_with fail
            exact ⟨⟨p ++ [a, b], r, out ++ [x], HP.out.1, HP.out.2, rfl, HU2.out, O3.out, B3.out⟩, RS.out⟩
end Go.Proofs.YtgldelgeaajgpaaDoor
