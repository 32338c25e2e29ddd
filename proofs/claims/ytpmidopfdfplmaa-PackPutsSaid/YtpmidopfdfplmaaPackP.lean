/- append of bytes, whatever slice they lie in; what the document's own Num and Text (carcanetref01) put: contracts. -/
import Derived.Test.YtpmidopfdfplmaaPackC
import Derived.Test.YtpmidopfdfplmaaPackN
import Derived.Deep.AppendLies
namespace Go.Proofs.Ytpmidopfdfplmaa
open Go.RowKit

theorem run_append_nothing {P : Program} (w : World) (base : Nat) (t ty e : TypeId) (i : TypeInfo) (size : Nat) (ht : P.underlying t = some (.slice e)) (hi : P.info? e = some i)
    (v : Value) (n : Nat) (xs : List Value) (hown : w.ownsRow base e size v n xs) (c : Nat) :
    (Builtin.append_ #[t, t] ty #[v, .slice none 0 c]).run P w = .ok v w := by
  rcases hown.2 with ⟨rfl, rfl⟩ | ⟨g, cap, cur, rfl, _, _, hnc, _⟩
  · simp [Builtin.append_, run_underlying ht, sizeOf, typeInfo, hi, Builtin.lenOf, Builtin.firstCells]
  · simp [Builtin.append_, run_underlying ht, sizeOf, typeInfo, hi, Builtin.lenOf, Builtin.firstCells, hnc, storeCells]

theorem run_append_bytes (w : World) (base : Nat) (ty : TypeId) (v : Value) (n : Nat) (xs : List Value) (hown : w.ownsRow base 5 1 v n xs) (src : Value) (l : List UInt8) (hs : BytesAt w src l)
    (hlen : n + l.length ≤ 10000000) (hbase : base ≤ w.heap.size) :
    ∃ v' w', (Builtin.append_ #[22, 22] ty #[v, src]).run Try.prog w = .ok v' w' ∧ w'.ownsRow base 5 1 v' (n + l.length) (xs ++ bv l) ∧ w.grownBy w' v.ownBlock := by
  obtain ⟨i0, hi0, hz0, hz1, hz2⟩ := info_parts byte_info
  obtain ⟨A, cap, rfl, -, hc⟩ := hs
  cases A with
  | none =>
    have hl : l = [] := by
      by_cases e : l = []
      · exact e
      · obtain ⟨ad, h, _⟩ := hc e
        cases h
    subst hl
    exact ⟨v, w, run_append_nothing w base _ ty _ i0 1 Try.underlying22 hi0 v n xs hown cap, by simpa [bv] using hown, World.grownBy.refl w _⟩
  | some ad =>
    obtain ⟨v', w', hr, ho, hg, _⟩ := run_append_own (P := Try.prog) w base 22 ty 5 i0 (.int .u8 0) 1 1 Try.underlying22 hi0 hz0 hz1 hz2 rfl (by decide) v n xs hown ad l.length cap (bv l) (by rw [bv_length, Nat.mul_one]) (fun j u hu => by
      simp only [bv, List.getElem?_map, Option.map_eq_some_iff] at hu
      obtain ⟨c, hcj, rfl⟩ := hu
      obtain ⟨ad', h, hcell⟩ := hc (by rintro rfl; simp at hcj)
      injection h with h
      subst h
      exact hcell j c hcj) (bv_one l) (by simp only [maxLen]; omega) (by omega) hbase
    exact ⟨v', w', hr, ho, hg⟩

theorem wp_append_bytes {w : World} {o : Oper} {a : Act} {K : Act → World → Prop} {Q : Exit → Act → World → Prop} (s x : Operand)
    (ho : o.op = .call { callee := .builtin .append, args := #[s, x], argTypes := #[22, 22] })
    (base : Nat) (v : Value) (n : Nat) (xs : List Value) (hv : a.eval s = v) (hown : w.ownsRow base 5 1 v n xs) (src : Value) (l : List UInt8) (hx : a.eval x = src) (hs : BytesAt w src l)
    (hlen : n + l.length ≤ 10000000) (hbase : base ≤ w.heap.size)
    (h : ∀ v' w', w'.ownsRow base 5 1 v' (n + l.length) (xs ++ bv l) → w.grownBy w' v.ownBlock → K (a.put o.dst v') w') : o.wp Try.prog a w K Q := by
  obtain ⟨v', w', hr, h2, h3⟩ := run_append_bytes w base o.type v n xs hown src l hs hlen hbase
  unfold Oper.wp execOp
  simp only [ho, resolve, invoke, builtin, Sem.run_bind, Sem.run_pure, Result.andThen_ok, List.map_toArray, List.map_cons, List.map_nil, hv, hx, hr]
  exact h v' w' h2 h3

theorem wpList_append_bytes {w : World} {ops : Array Oper} {rest : List Oper} {o : Oper} {a : Act} {Q : Exit → Act → World → Prop} (hgd : o.guard = none) (s x : Operand)
    (ho : o.op = .call { callee := .builtin .append, args := #[s, x], argTypes := #[22, 22] })
    (base : Nat) (v : Value) (n : Nat) (xs : List Value) (hv : a.eval s = v) (hown : w.ownsRow base 5 1 v n xs) (src : Value) (l : List UInt8) (hx : a.eval x = src) (hs : BytesAt w src l)
    (hlen : n + l.length ≤ 10000000) (hbase : base ≤ w.heap.size)
    (h : ∀ v' w', w'.ownsRow base 5 1 v' (n + l.length) (xs ++ bv l) → w.grownBy w' v.ownBlock → wpList Try.prog ops Q rest (a.put o.dst v') w') : wpList Try.prog ops Q (o :: rest) a w :=
  wpList_plain hgd fun _ hK => wp_append_bytes s x ho base v n xs hv hown src l hx hs hlen hbase fun v' w' h2 h3 => hK _ _ (h v' w' h2 h3)

/-- A string made bytes: a slice of the call's own. -/
theorem conv_str (w : World) (s : ByteArray) : ∃ vs w2, (convert 9 22 (.string s)).run Try.prog w = .ok vs w2 ∧ BytesAt w2 vs s.data.toList ∧ Below w.heap.size w w2 := by
  refine ⟨_, _, run_bytes_of_string (P := Try.prog) w 9 22 5 s Try.underlying9 Try.underlying22 Try.underlying5, ?_, (Below.refl _ _).drew.alloc (Nat.le_refl _) _⟩
  have hlen : s.data.toList.length = s.size := by simp
  refine ⟨_, _, by rw [hlen], by rw [hlen]; exact grownCap_ge _ _ _ _, fun _ => ⟨_, rfl, fun j c hj => ?_⟩⟩
  have ha : (⟨w.heap.size, 0, none⟩ : Addr).add j = ⟨w.heap.size, j, none⟩ := by unfold Addr.add; split <;> simp_all
  obtain ⟨hjl, hjc⟩ := List.getElem?_eq_some_iff.1 hj
  have hjs : j < s.data.size := by simpa using hjl
  rw [ha]
  have hh : (w.drew.alloc (.cells (bytesRow s (grownCap w s.size 0 5)) 5 ((bytesRow s (grownCap w s.size 0 5)).size, (bytesRow s (grownCap w s.size 0 5)).size + 1))).heap[w.heap.size]? = some (.cells (bytesRow s (grownCap w s.size 0 5)) 5 ((bytesRow s (grownCap w s.size 0 5)).size, (bytesRow s (grownCap w s.size 0 5)).size + 1)) := heap_alloc_new w.drew _
  rw [cell_of_row _ _ _ _ _ _ hh, bytesRow_at s _ j hjs]
  simp at hjc
  rw [hjc]

/-- An empty literal is owned. -/
theorem own_empty (w : World) : (w.alloc (.cells #[] 5)).ownsRow w.heap.size 5 1 (.slice (some ⟨w.heap.size, 0, none⟩) 0 0) 0 [] :=
  World.ownsRow_lit w #[] 0 (Nat.le_refl _) (by simp [maxLen]) rfl

theorem be_eq (size x : Nat) : be size x = (List.range size).map (beAt size x) := by
  have h : ∀ k, beTo size x k = (List.range k).map (beAt size x) := by
    intro k
    induction k with
    | zero => rfl
    | succ k ih => rw [beTo, ih, List.range_succ, List.map_append]; rfl
  exact h size
theorem be_succ (j x : Nat) : be (j + 1) x = UInt8.ofNat (x / 256 ^ j % 256) :: be j x := by
  rw [be_eq, be_eq, List.range_succ_eq_map, List.map_cons, List.map_map]
  congr 1
  · simp only [beAt]
    rw [show (256 : Nat) = 2 ^ 8 from rfl, ← Nat.pow_mul]
    simp
  · apply List.map_congr_left
    intro i _
    simp only [Function.comp, beAt]
    have : j + 1 - 1 - i.succ = j - 1 - i := by omega
    rw [this]

/-- The bytes while the number is written from its end. -/
def midN (l : List UInt8) (size x j : Nat) : List UInt8 := l ++ (List.replicate (size - j) 0 ++ be j x)
theorem midN_length (l : List UInt8) (size x j : Nat) (h : j ≤ size) : (midN l size x j).length = l.length + size := by
  simp [midN, be_length]; omega
theorem midN_zero (l : List UInt8) (size x : Nat) : midN l size x 0 = l ++ List.replicate size 0 := by simp [midN, be, beTo]
theorem midN_all (l : List UInt8) (size x : Nat) : midN l size x size = l ++ be size x := by simp [midN]
theorem midN_set (l : List UInt8) (size x j : Nat) (h : j < size) :
    (bv (midN l size x j)).set (l.length + size - 1 - j) (.int .u8 (((x / 256 ^ j % 256 : Nat)) : Int)) = bv (midN l size x (j + 1)) := by
  have e1 : size - j = (size - (j + 1)) + 1 := by omega
  rw [midN, midN, be_succ, e1, List.replicate_succ']
  simp only [bv, List.map_append, List.map_cons, List.map_nil, List.append_assoc]
  have e2 : l.length + size - 1 - j = (l.map fun c => Value.int .u8 (c.toNat : Int)).length + (size - (j + 1)) := by simp; omega
  rw [e2, List.set_append_right _ _ (by omega), Nat.add_sub_cancel_left]
  congr 1
  rw [List.set_append_right _ _ (by simp)]
  simp

set_option maxHeartbeats 1000000 in
theorem ref_num_put (A : Option Addr) (l : List UInt8) (cap x size : Nat) (w : World) (hb : BytesAt w (.slice A l.length cap) l) (h1 : 1 ≤ size) (h8 : size ≤ 8) (hl : l.length ≤ 3000) (hx : x < 18446744073709551616) :
    Calls Try.prog 9 #[.slice A l.length cap, .int .u64 x, .int .i64 size] w fun e w' =>
      ∃ v', e = .returned v' ∧ w'.ownsRow w.heap.size 5 1 v' (l ++ be size x).length (bv (l ++ be size x)) ∧ Below w.heap.size w w' := by
  have HB := Lib.hid hb
  have HX := Lib.hid hx
  clear hb hx
  obtain ⟨i0, hi0, hz0, hz1, hz2⟩ := info_parts byte_info
  have d1 : decide ((size : Int) < 1) = false := by simp; omega
  have d8 : decide ((8 : Int) < (size : Int)) = false := by simp; omega
  go_enter Try.func9, Try.ntmps9
  go_wp2_with (at_builtin; refine wpList_append_bytes rfl (.tmp 17) (.tmp 18) rfl w.heap.size _ 0 [] rfl (own_empty w) _ l rfl ?c1 ?c2 ?c3 ?_)
  case c1 => exact HB.out.below ((Below.refl _ _).alloc (Nat.le_refl _) _)
  case c2 => omega
  case c3 => simp
  intro v1 w1 ho1 hg1
  have hb1 : Below w.heap.size w w1 := ((Below.refl _ _).alloc (Nat.le_refl _) _).grown hg1 (by simp) (fun k hk => by simp [Value.ownBlock] at hk; omega)
  have HO1 := Lib.hid ho1
  have HB1 := Lib.hid hb1
  clear ho1 hg1 hb1
  go_wp2_with fail
  go_loopw [7, 8] (fun u i wr => ∃ k : Nat, k ≤ size ∧ i = .int .i64 k ∧ wr.ownsRow w.heap.size 5 1 u (l.length + k) (bv (l ++ List.replicate k 0)) ∧ Below w.heap.size w wr) (fun _ i _ => size - (intOf i).toNat)
  case atStart => exact ⟨0, Nat.zero_le _, rfl, by simpa using HO1.out, HB1.out⟩
  case round =>
    obtain ⟨k, hk, rfl, ho, hbel⟩ := hrel
    have HO := Lib.hid ho
    have HBe := Lib.hid hbel
    have zr := hbel.size
    clear ho hbel
    by_cases hlt : k < size
    · go_wp2_with (at_builtin; refine wpList_append_own _ rfl (.tmp 25) (.tmp 26) 22 rfl w.heap.size 5 i0 (.int .u8 0) 1 1 Try.underlying22 hi0 hz0 hz1 hz2 rfl (by decide) _ (l.length + k) _ rfl (HO.out.alloc _) ⟨wr.heap.size, 0, none⟩ 1 1 [.int .u8 0] rfl rfl ?c1 ?c2 ?c3 ?c4 ?c5 ?_)
      case c1 => exact cell_one_new _ _ _
      case c2 => intro u hu; simp at hu; subst hu; rfl
      case c3 => simp only [maxLen]; omega
      case c4 => omega
      case c5 => simp; omega
      intro v' w2 ho' hg _
      have hr := (HO.out.alloc (.cells #[.int .u8 0] 5)).lt
      have hbel' : Below w.heap.size w w2 := (HBe.out.alloc (by omega) _).grown hg (by simp; omega) (fun g hg => (hr g hg).1)
      have ho2 : w2.ownsRow w.heap.size 5 1 v' (l.length + (k + 1)) (bv (l ++ List.replicate (k + 1) 0)) := by
        rw [List.replicate_succ', ← List.append_assoc, bv_append]
        exact ho'
      have HO2 := Lib.hid ho2
      have HB2 := Lib.hid hbel'
      clear ho2 ho' hg hr hbel'
      go_wp2
      go_roundw
      case rel => exact ⟨k + 1, by omega, by go_num, HO2.out, HB2.out⟩
      case measure => simp [intOf]; omega
    · obtain rfl : k = size := by omega
      obtain ⟨g, capg, hv, hgb, hgl⟩ := HO.out.form (by omega)
      obtain rfl := hv
      have HOa := Lib.hid (by have q := HO.out; rw [← midN_zero l k x] at q; exact q)
      have HBa := HBe
      obtain ⟨wa, rfl⟩ : ∃ wa : World, wa = wr := ⟨_, rfl⟩
      clear HO HBe hlt hk HO1 HB1
      go_wp2_with fail
      go_loopw [9, 1] (fun i y wr => ∃ j : Nat, j ≤ k ∧ i = .int .i64 ((l.length : Int) + k - 1 - j) ∧ y = .int .u64 ((x / 256 ^ j : Nat) : Int) ∧ wr.ownsRow w.heap.size 5 1 (.slice (some ⟨g, 0, none⟩) (l.length + k) capg) (l.length + k) (bv (midN l k x j)) ∧ Below w.heap.size w wr) (fun i _ _ => (intOf i + 1 - l.length).toNat)
      case atStart => exact ⟨0, Nat.zero_le _, by go_num, by simp, HOa.out, HBa.out⟩
      case round =>
        obtain ⟨j, hj, rfl, rfl, ho, hbel⟩ := hrel
        have HO := Lib.hid ho
        have HBe := Lib.hid hbel
        have zr := hbel.size
        clear ho hbel
        by_cases hlt : j < k
        · have c0 := HO.out.cellAt (l.length + k - 1 - j) (by omega)
          have f0 := HO.out.frozenAt (l.length + k - 1 - j)
          have hlen : l.length + k - 1 - j < (bv (midN l k x j)).length := by rw [bv_length, midN_length _ _ _ _ hj]; omega
          rw [List.getElem?_eq_getElem hlen] at c0
          generalize (bv (midN l k x j))[l.length + k - 1 - j] = old at c0
          have HS := Lib.hid (midN_set l k x j hlt)
          have HW : Hid (IntKind.u64.wrap (((x / 256 ^ j : Nat) : Int) / 256) = ((x / 256 ^ (j + 1) : Nat) : Int)) := by
            have e1 : x / 256 ^ (j + 1) = x / 256 ^ j / 256 := by rw [Nat.div_div_eq_div_mul, Nat.pow_succ]
            have e2 : x / 256 ^ j < 18446744073709551616 := Nat.lt_of_le_of_lt (Nat.div_le_self _ _) HX.out
            show IntKind.u64.wrap (((x / 256 ^ j : Nat) : Int) / 256) = ((x / 256 ^ (j + 1) : Nat) : Int)
            rw [e1, IntKind.wrap_u64]
            generalize x / 256 ^ j = y at *
            omega
          have HE : Hid (((x / 256 ^ j % 256 : Nat) : Int) = ((x / 256 ^ j : Nat) : Int) % 256) := Int.natCast_emod _ _
          clear hlen
          generalize x / 256 ^ j = y at *
          go_wp2_with fail
          refine ⟨⟨j + 1, by omega, by congr 1; omega, by rw [HW.out], ?_, HBe.out.setCell (by exact hgb) _⟩, by simp [intOf]; omega⟩
          have q := HO.out.stored (l.length + k - 1 - j) (.int .u8 ((y : Int) % 256))
          rw [← HE.out, HS.out] at q
          rw [← HE.out]
          exact q.1
        · obtain rfl : j = k := by omega
          have ho := HO.out
          rw [midN_all] at ho
          have HO2 : Hid (wr.ownsRow w.heap.size 5 1 (.slice (some ⟨g, 0, none⟩) (l.length + j) capg) (l ++ be j x).length (bv (l ++ be j x))) := by
            rw [List.length_append, be_length]; exact ho
          clear ho HO
          go_wp2
          go_ret
          exact ⟨_, rfl, HO2.out, HBe.out⟩

set_option maxHeartbeats 400000 in
theorem ref_num_put_not (v : Value) (x n : Int) (w : World) (h : n < 1 ∨ 8 < n) :
    Calls Try.prog 9 #[v, .int .u64 x, .int .i64 n] w fun e w' => e = .returned v ∧ w = w' := by
  by_cases h1 : n < 1
  · have d1 : decide (n < 1) = true := by simpa using h1
    go_enter Try.func9, Try.ntmps9
    go_wp2
    go_ret
    exact ⟨rfl, rfl⟩
  · have d1 : decide (n < 1) = false := by simpa using h1
    have d8 : decide (8 < n) = true := by simp; omega
    go_enter Try.func9, Try.ntmps9
    go_wp2
    go_ret
    exact ⟨rfl, rfl⟩

set_option maxHeartbeats 400000 in
theorem ref_text_put (A : Option Addr) (l : List UInt8) (cap : Nat) (s : ByteArray) (w : World) (hb : BytesAt w (.slice A l.length cap) l) (hl : l.length ≤ 3000) (hs : s.size ≤ 70000) :
    Calls Try.prog 11 #[.slice A l.length cap, .string s] w fun e w' =>
      ∃ v', e = .returned v' ∧ w'.ownsRow w.heap.size 5 1 v' (l ++ encS (cutText s)).length (bv (l ++ encS (cutText s))) ∧ Below w.heap.size w w' := by
  have HB := Lib.hid hb
  clear hb
  by_cases hlt : s.size ≤ 65535
  · have hcut : cutText s = s := by
      rw [cutText, Nat.min_eq_left hlt]; exact ByteArray.extract_zero_size
    rw [hcut]
    clear hcut
    go_enter Try.func11, Try.ntmps11
    go_wp2_with fail
    refine (ref_num_put A l cap s.size 2 w HB.out (by omega) (by omega) hl (by omega)).mono ?_
    rintro e w1 ⟨v1, rfl, ho1, hb1⟩
    obtain ⟨vs, w2, hcv, hby, hbw⟩ := conv_str w1 s
    have HBY := Lib.hid hby
    have HO2 := Lib.hid (ho1.kept (row := none) ⟨hbw.os, hbw.tape, hbw.output, hbw.size, fun k hk _ => hbw.block k hk⟩ (by cases v1.ownBlock <;> simp))
    have zz := hb1.size
    have HB2 := Lib.hid (hb1.trans (hbw.mono zz))
    have hsl : (l ++ be 2 s.size).length = l.length + 2 := by simp [be_length]
    have z2 := hbw.size
    have HSL := Lib.hid hsl
    clear ho1 hb1 hby hbw hsl
    go_wp2_with (at_builtin; refine wpList_append_bytes rfl (.tmp 14) (.tmp 16) rfl w.heap.size _ (l ++ be 2 s.size).length _ rfl HO2.out _ s.data.toList rfl HBY.out ?c2 ?c3 ?_)
    case c2 => rw [HSL.out]; simp; omega
    case c3 => omega
    intro v3 w3 ho3 hg3
    have hB3 := HB2.out.grown hg3 (by omega) (fun k hk => (HO2.out.lt k hk).1)
    have HO3 : Hid (w3.ownsRow w.heap.size 5 1 v3 (l ++ encS s).length (bv (l ++ encS s))) := by
      rw [encS, ← List.append_assoc, bv_append, List.length_append]
      refine Lib.hid ?_
      simpa using ho3
    have HB3 := Lib.hid hB3
    clear ho3 hg3 hB3 hcv
    go_wp2
    go_ret
    exact ⟨_, rfl, HO3.out, HB3.out⟩
  · have hmin : min s.size 65535 = 65535 := by omega
    have hcut : cutText s = s.extract 0 65535 := by rw [cutText, hmin]
    have hsz : (s.extract 0 65535).size = 65535 := by simp; omega
    rw [hcut]
    have HS := Lib.hid hsz
    clear hcut hmin hsz
    go_enter Try.func11, Try.ntmps11
    go_wp2_with fail
    rw [show ((min 65535 s.size : Nat) : Int) = ((s.extract 0 65535).size : Nat) by rw [HS.out]; omega]
    refine (ref_num_put A l cap (s.extract 0 65535).size 2 w HB.out (by omega) (by omega) hl (by rw [HS.out]; omega)).mono ?_
    rintro e w1 ⟨v1, rfl, ho1, hb1⟩
    obtain ⟨vs, w2, hcv, hby, hbw⟩ := conv_str w1 (s.extract 0 65535)
    have HBY := Lib.hid hby
    have HO2 := Lib.hid (ho1.kept (row := none) ⟨hbw.os, hbw.tape, hbw.output, hbw.size, fun k hk _ => hbw.block k hk⟩ (by cases v1.ownBlock <;> simp))
    have zz := hb1.size
    have HB2 := Lib.hid (hb1.trans (hbw.mono zz))
    have hsl : (l ++ be 2 (s.extract 0 65535).size).length = l.length + 2 := by simp [be_length]
    have hsl2 : (s.extract 0 65535).data.toList.length = 65535 := by
      rw [Array.length_toList]
      exact HS.out
    have z2 := hbw.size
    have HSL := Lib.hid hsl
    have HSL2 := Lib.hid hsl2
    clear ho1 hb1 hby hbw hsl hsl2
    go_wp2_with (at_builtin; refine wpList_append_bytes rfl (.tmp 14) (.tmp 16) rfl w.heap.size _ (l ++ be 2 (s.extract 0 65535).size).length _ rfl HO2.out _ (s.extract 0 65535).data.toList rfl HBY.out ?c2 ?c3 ?_)
    case c2 => rw [HSL.out, HSL2.out]; omega
    case c3 => omega
    intro v3 w3 ho3 hg3
    have hB3 := HB2.out.grown hg3 (by omega) (fun k hk => (HO2.out.lt k hk).1)
    have HO3 : Hid (w3.ownsRow w.heap.size 5 1 v3 (l ++ encS (s.extract 0 65535)).length (bv (l ++ encS (s.extract 0 65535)))) := by
      rw [encS, ← List.append_assoc, bv_append, List.length_append]
      refine Lib.hid ?_
      simpa using ho3
    have HB3 := Lib.hid hB3
    clear ho3 hg3 hB3 hcv
    go_wp2
    go_ret
    exact ⟨_, rfl, HO3.out, HB3.out⟩
end Go.Proofs.Ytpmidopfdfplmaa
