/- PackBack: numbers of so many bytes, and texts, that are put, one behind the other, are read so, up to the end. For every input. -/
import Derived.Test.YtpmidopfdfplmaaPackO
import Derived.Test.YtpmidopfdfplmaaPackN
import Derived.SliceStrings
namespace Go.Proofs.Ytpmidopfdfplmaa
open Go.RowKit Go.ChangeShapes Go.WideShapes Go.ChangeAt

theorem read_num_enc (g m x : Nat) (rest : List UInt8) (w : World) (h1 : 1 ≤ m) (h8 : m ≤ 8) (h : Rd w g (str (be m x ++ rest)) 0) :
    Calls Try.prog 14 #[.pointer (some ⟨g, 0, none⟩), .int .i64 m] w fun e w' => e = .returned (.int .u64 ((x % 256 ^ m : Nat) : Int)) ∧ RdTo w g (str rest) 0 w' := by
  have c := read_num g _ 0 m w h h1 h8 (by rw [str_size, List.length_append, be_length]; omega)
  have e1 := str_take (be m x) rest
  have e2 := str_drop (be m x) rest
  rw [be_length] at e1 e2
  rw [e1, e2, str_list, ofBe_be] at c
  exact c

theorem read_text_enc (g : Nat) (s : ByteArray) (rest : List UInt8) (most : Int) (w : World) (hm : s.size ≤ most) (h6 : s.size ≤ 65535) (h : Rd w g (str (encS s ++ rest)) 0) :
    Calls Try.prog 16 #[.pointer (some ⟨g, 0, none⟩), .int .i64 most] w fun e w' => e = .returned (.string s) ∧ RdTo w g (str rest) 0 w' := by
  rw [encS, List.append_assoc] at h
  have c := read_num_enc g 2 s.size (s.data.toList ++ rest) w (by omega) (by omega) h
  have e0 : s.size % 256 ^ 2 = s.size := Nat.mod_eq_of_lt (by omega)
  rw [e0] at c
  refine read_text_ok g 0 0 w s.size most (str (s.data.toList ++ rest)) (str rest) s h6 hm (Lib.hid c) (Lib.hid fun w1 h1 => ?_)
  have d := raw_some g _ 0 s.size w1 h1 (by rw [str_size]; simp)
  have e1 := str_take s.data.toList rest
  have e2 := str_drop s.data.toList rest
  have e3 : s.data.toList.length = s.size := by simp
  rw [e3] at e1 e2
  rw [e1, e2, str_back] at d
  exact d

theorem put_text_enc (base : Nat) (v : Value) (l : List UInt8) (s : ByteArray) (w : World) (hs : s.size ≤ 65535)
    (hown : w.ownsRow base 5 1 v l.length (bv l)) (hb : base ≤ w.heap.size) (hl : l.length ≤ 900000) :
    Calls Try.prog 10 #[v, .string s] w fun e w' =>
      ∃ v', e = .returned v' ∧ w'.ownsRow base 5 1 v' (l ++ encS s).length (bv (l ++ encS s)) ∧ Below base w w' := by
  have c := put_text base v l s w (by omega) hown hb hl
  have hcut : cutText s = s := by
    rw [cutText, Nat.min_eq_left hs]; exact ByteArray.extract_zero_size
  rw [hcut, List.append_assoc, Nat.add_assoc] at c
  rw [List.length_append, encS_length]
  exact c

theorem put_num_enc (base : Nat) (v : Value) (l : List UInt8) (x m : Nat) (w : World) (h1 : 1 ≤ m) (h8 : m ≤ 8)
    (hown : w.ownsRow base 5 1 v l.length (bv l)) (hb : base ≤ w.heap.size) (hl : l.length ≤ 900000) :
    Calls Try.prog 8 #[v, .int .u64 x, .int .i64 m] w fun e w' =>
      ∃ v', e = .returned v' ∧ w'.ownsRow base 5 1 v' (l ++ be m x).length (bv (l ++ be m x)) ∧ Below base w w' := by
  rw [List.length_append, be_length]
  exact put_num base v l x m w h1 h8 hown hb (by omega)

/-- Slices of numbers, and of texts. -/
def NumsAt (w : World) (A : Option Addr) (ns : List Nat) : Prop :=
  0 < ns.length → ∃ b off, A = some ⟨b, off, none⟩ ∧ b < w.heap.size ∧ ∀ (i x : Nat), ns[i]? = some x → w.cell? ⟨b, off + i, none⟩ = some (.int .u64 (x : Int)) ∧ x < 18446744073709551616
def TextsAt (w : World) (A : Option Addr) (ts : List ByteArray) : Prop :=
  0 < ts.length → ∃ b off, A = some ⟨b, off, none⟩ ∧ b < w.heap.size ∧ ∀ (i : Nat) s, ts[i]? = some s → w.cell? ⟨b, off + i, none⟩ = some (.string s) ∧ s.size ≤ 9223372036854775807

set_option maxHeartbeats 1000000 in
theorem back_small (A0 A1 : Option Addr) (ns : List Nat) (ts : List ByteArray) (c0 c1 z : Nat) (w : World) (hn : NumsAt w A0 ns) (ht : TextsAt w A1 ts) (hz : z ≤ 255)
    (hl0 : ns.length ≤ 50) (hl1 : ts.length ≤ 50) :
    Calls Try.prog 5 #[.slice A0 ns.length c0, .slice A1 ts.length c1, .int .u8 z] w fun e w' => e = .returned (.bool true) ∧ Below w.heap.size w w' := by
  have HN := Lib.hid hn
  have HT := Lib.hid ht
  clear hn ht
  have h3 : decide ((50 : Int) < (ns.length : Int)) = false := by simp; omega
  have h4 : decide ((50 : Int) < (ts.length : Int)) = false := by simp; omega
  go_enter Try.func5, Try.ntmps5
  go_wp2_with fail
  refine (works_any w).mono ?_
  rintro e w1 ⟨rfl, hb1⟩
  have hB1 := Lib.hid hb1
  clear hb1
  go_wp2_with fail
  obtain ⟨m, hm⟩ : ∃ m : Nat, (1 + (z : Int) % 8) = (m : Int) := ⟨1 + z % 8, by omega⟩
  have hm1 : 1 ≤ m := by omega
  have hm8 : m ≤ 8 := by omega
  rw [hm]
  clear hm
  go_loopw [8, 34] (fun u i wr => ∃ k : Nat, k ≤ ns.length ∧ i = .int .i64 k ∧ wr.ownsRow w1.heap.size 5 1 u (encN m (ns.take k)).length (bv (encN m (ns.take k))) ∧ Below w1.heap.size w1 wr) (fun _ i _ => ns.length - (intOf i).toNat)
  case atStart => exact ⟨0, Nat.zero_le _, rfl, by simpa [encN, bv] using World.ownsRow_nil w1 w1.heap.size 5 1, Below.refl _ _⟩
  case round =>
    obtain ⟨k, hk, rfl, ho, hbel⟩ := hrel
    have HO := Lib.hid ho
    have HB := Lib.hid hbel
    have zr := hbel.size
    clear ho hbel
    by_cases hlt : k < ns.length
    · obtain ⟨b, off, rfl, hbw, hcell⟩ := HN.out (by omega)
      obtain ⟨x, hx⟩ : ∃ x, ns[k]? = some x := ⟨_, List.getElem?_eq_getElem hlt⟩
      obtain ⟨d0, hxl⟩ := hcell k x hx
      have d1 : wr.cell? ⟨b, off + k, none⟩ = some (.int .u64 (x : Int)) := by
        have q := (hB1.out.trans (HB.out.mono hB1.out.size)).cell (p := ⟨b, off + k, none⟩) hbw
        exact q.trans d0
      have HX := Lib.hid (take_at hx)
      clear hcell d0 hx
      go_wp2_with fail
      refine (put_num_enc w1.heap.size _ (encN m (ns.take k)) x m wr hm1 hm8 HO.out zr ?_).mono ?_
      · rw [encN_length, List.length_take]
        have : m * min k ns.length ≤ 8 * 50 := Nat.mul_le_mul hm8 (by omega)
        omega
      rintro e w2 ⟨v2, rfl, ho2, hb2⟩
      rw [← encN_snoc, ← HX.out] at ho2
      have HO2 := Lib.hid ho2
      have HB2 := Lib.hid (HB.out.trans hb2)
      clear ho2 hb2
      go_wp2
      go_roundw
      case rel => exact ⟨k + 1, by omega, by go_num, HO2.out, HB2.out⟩
      case measure => simp [intOf]; omega
    · obtain rfl : k = ns.length := by omega
      have ho := HO.out
      rw [List.take_length] at ho
      have HO1 := Lib.hid ho
      clear ho hlt
      have HBa := HB
      obtain ⟨wa, rfl⟩ : ∃ wa : World, wa = wr := ⟨_, rfl⟩
      clear HB HO hk
      go_wp2_with fail
      go_loopw [8, 45] (fun u i wr => ∃ k : Nat, k ≤ ts.length ∧ i = .int .i64 k ∧ wr.ownsRow w1.heap.size 5 1 u (encN m ns ++ encT (ts.take k)).length (bv (encN m ns ++ encT (ts.take k))) ∧ Below w1.heap.size w1 wr ∧ (∀ s ∈ ts.take k, s.size ≤ 1000)) (fun _ i _ => ts.length - (intOf i).toNat)
      case atStart => exact ⟨0, Nat.zero_le _, rfl, by simpa [encT] using HO1.out, HBa.out, by simp⟩
      case round =>
        obtain ⟨k, hk, rfl, ho, hbel, hsm⟩ := hrel
        have HO := Lib.hid ho
        have HB := Lib.hid hbel
        have HS := Lib.hid hsm
        have zr := hbel.size
        clear ho hbel hsm
        by_cases hlt : k < ts.length
        · obtain ⟨b, off, rfl, hbw, hcell⟩ := HT.out (by omega)
          obtain ⟨s, hs⟩ : ∃ s, ts[k]? = some s := ⟨_, List.getElem?_eq_getElem hlt⟩
          obtain ⟨d0, hsl⟩ := hcell k s hs
          have d1 : wr.cell? ⟨b, off + k, none⟩ = some (.string s) := by
            have q := (hB1.out.trans (HB.out.mono hB1.out.size)).cell (p := ⟨b, off + k, none⟩) hbw
            exact q.trans d0
          have HX := Lib.hid (take_at hs)
          clear hcell d0 hs
          by_cases hbig : 1000 < s.size
          · go_wp2
            go_ret
            exact ⟨rfl, hB1.out.trans (HB.out.mono hB1.out.size)⟩
          · have hbig' : s.size ≤ 1000 := by omega
            go_wp2_with fail
            refine (put_text_enc w1.heap.size _ (encN m ns ++ encT (ts.take k)) s wr (by omega) HO.out zr ?_).mono ?_
            · have q1 := encT_le _ HS.out
              rw [List.length_append, encN_length]
              rw [List.length_take] at q1
              have : m * ns.length ≤ 8 * 50 := Nat.mul_le_mul hm8 (by omega)
              omega
            rintro e w2 ⟨v2, rfl, ho2, hb2⟩
            rw [List.append_assoc, ← encT_snoc, ← HX.out] at ho2
            have HO2 := Lib.hid ho2
            have HB2 := Lib.hid (HB.out.trans hb2)
            have hs2 : ∀ t ∈ ts.take (k + 1), t.size ≤ 1000 := by
              rw [HX.out]
              intro t ht
              rcases List.mem_append.1 ht with h | h
              · exact HS.out t h
              · simp at h; subst h; exact hbig'
            have HS2 := Lib.hid hs2
            clear ho2 hb2 hs2
            go_wp2
            go_roundw
            case rel => exact ⟨k + 1, by omega, by go_num, HO2.out, HB2.out, HS2.out⟩
            case measure => simp [intOf]; omega
        · obtain rfl : k = ts.length := by omega
          have ho := HO.out
          have hs := HS.out
          rw [List.take_length] at ho hs
          have HO2 := Lib.hid (BytesAt.of_own ho)
          have HS2 := Lib.hid hs
          have HBb := HB
          obtain ⟨wb, rfl⟩ : ∃ wb : World, wb = wr := ⟨_, rfl⟩
          clear ho hlt hs HO HS HB hk HBa HO1
          go_wp2_with fail
          refine (open_any _ _ wb HO2.out).mono ?_
          rintro e w2 ⟨rfl, hr2, hb2⟩
          have HR2 : Hid (Rd w2 wb.heap.size (str (encN m ns ++ encT ts)) 0) := hr2
          have hbw2 : Below w.heap.size w w2 := (hB1.out.trans (HBb.out.mono hB1.out.size)).trans (hb2.mono (Nat.le_trans hB1.out.size zr))
          have HW2 := Lib.hid hbw2
          have zg : w.heap.size ≤ wb.heap.size := Nat.le_trans hB1.out.size zr
          clear hr2 hb2 hbw2 HO2
          go_wp2_with fail
          go_loopw [60] (fun i wr => ∃ k : Nat, k ≤ ns.length ∧ i = .int .i64 k ∧ Rd wr wb.heap.size (str (encN m (ns.drop k) ++ encT ts)) 0 ∧ Below w.heap.size w wr) (fun i _ => ns.length - (intOf i).toNat)
          case atStart => exact ⟨0, Nat.zero_le _, rfl, HR2.out, HW2.out⟩
          case round =>
            obtain ⟨k, hk, rfl, hr, hbel⟩ := hrel
            have HR := Lib.hid hr
            have HB := Lib.hid hbel
            have zr := hbel.size
            have zk := hr.lt
            clear hr hbel
            by_cases hlt : k < ns.length
            · obtain ⟨b, off, rfl, hbw, hcell⟩ := HN.out (by omega)
              obtain ⟨x, hx⟩ : ∃ x, ns[k]? = some x := ⟨_, List.getElem?_eq_getElem hlt⟩
              obtain ⟨d0, hxl⟩ := hcell k x hx
              have d1 : wr.cell? ⟨b, off + k, none⟩ = some (.int .u64 (x : Int)) := (HB.out.cell (p := ⟨b, off + k, none⟩) hbw).trans d0
              have hr' := HR.out
              rw [drop_at hx, encN_cons, List.append_assoc] at hr'
              have HR' := Lib.hid hr'
              clear hcell d0 hx hr'
              by_cases hm7 : m < 8
              · have hq := wrap_pow m hm1 hm7
                have hq0 : 1 ≤ 256 ^ m := Nat.pow_pos (by decide)
                have c := read_num_enc wb.heap.size m x _ wr hm1 hm8 HR'.out
                generalize 256 ^ m = q at hq hq0 c
                have C := Lib.hid c
                clear c
                go_wp2_with fail
                refine C.out.mono ?_
                rintro e w3 ⟨rfl, hr3, hg3⟩
                have HR3 := Lib.hid hr3
                have HB3 := Lib.hid (HB.out.grown hg3 (by omega) (fun k hk => by injection hk; omega))
                clear hr3 hg3
                go_wp2
                go_roundw
                case rel => exact ⟨k + 1, by omega, by go_num, HR3.out, HB3.out⟩
                case measure => simp [intOf]; omega
              · have c := read_num_enc wb.heap.size m x _ wr hm1 hm8 HR'.out
                have e8 : x % 256 ^ m = x := by
                  have : m = 8 := by omega
                  rw [this, pow_8, Nat.mod_eq_of_lt hxl]
                rw [e8] at c
                clear e8
                have C := Lib.hid c
                clear c
                go_wp2_with fail
                refine C.out.mono ?_
                rintro e w3 ⟨rfl, hr3, hg3⟩
                have HR3 := Lib.hid hr3
                have HB3 := Lib.hid (HB.out.grown hg3 (by omega) (fun k hk => by injection hk; omega))
                clear hr3 hg3
                go_wp2
                go_roundw
                case rel => exact ⟨k + 1, by omega, by go_num, HR3.out, HB3.out⟩
                case measure => simp [intOf]; omega
            · obtain rfl : k = ns.length := by omega
              have hr' := HR.out
              rw [List.drop_length] at hr'
              have HR3 : Hid (Rd wr wb.heap.size (str (encT ts)) 0) := hr'
              have HB3 := HB
              obtain ⟨wc, rfl⟩ : ∃ wc : World, wc = wr := ⟨_, rfl⟩
              clear hr' HR HB hlt hk HR2 HW2
              go_wp2_with fail
              go_loopw [79] (fun i wr => ∃ k : Nat, k ≤ ts.length ∧ i = .int .i64 k ∧ Rd wr wb.heap.size (str (encT (ts.drop k))) 0 ∧ Below w.heap.size w wr) (fun i _ => ts.length - (intOf i).toNat)
              case atStart => exact ⟨0, Nat.zero_le _, rfl, HR3.out, HB3.out⟩
              case round =>
                obtain ⟨k, hk, rfl, hr, hbel⟩ := hrel
                have HR := Lib.hid hr
                have HB := Lib.hid hbel
                have zr := hbel.size
                have zk := hr.lt
                clear hr hbel
                by_cases hlt : k < ts.length
                · obtain ⟨b, off, rfl, hbw, hcell⟩ := HT.out (by omega)
                  obtain ⟨s, hs⟩ : ∃ s, ts[k]? = some s := ⟨_, List.getElem?_eq_getElem hlt⟩
                  obtain ⟨d0, hsl⟩ := hcell k s hs
                  have d1 : wr.cell? ⟨b, off + k, none⟩ = some (.string s) := (HB.out.cell (p := ⟨b, off + k, none⟩) hbw).trans d0
                  have hsz : s.size ≤ 1000 := HS2.out s (List.mem_of_getElem? hs)
                  have hr' := HR.out
                  rw [drop_at hs, encT_cons] at hr'
                  have HR' := Lib.hid hr'
                  clear hcell d0 hs hr'
                  go_wp2_with fail
                  refine (read_text_enc wb.heap.size s _ 1000 wr (by omega) (by omega) HR'.out).mono ?_
                  rintro e w3 ⟨rfl, hr3, hg3⟩
                  have HR4 := Lib.hid hr3
                  have HB4 := Lib.hid (HB.out.grown hg3 (by omega) (fun k hk => by injection hk; omega))
                  clear hr3 hg3
                  go_wp2
                  go_roundw
                  case rel => exact ⟨k + 1, by omega, by go_num, HR4.out, HB4.out⟩
                  case measure => simp [intOf]; omega
                · obtain rfl : k = ts.length := by omega
                  have hr' := HR.out
                  rw [List.drop_length] at hr'
                  have HR4 : Hid (Rd wr wb.heap.size ByteArray.empty 0) := hr'
                  clear hr' HR hlt hk
                  go_wp2_with fail
                  refine (met_left _ 0 wr HR4.out).mono ?_
                  rintro e w3 ⟨rfl, rfl⟩
                  go_wp2_with fail
                  refine (ex_end _ wr HR4.out).mono ?_
                  rintro e w3 ⟨rfl, rfl⟩
                  go_wp2
                  go_ret
                  exact ⟨rfl, HB.out⟩

theorem back_great (A0 A1 : Option Addr) (len0 len1 : Nat) (c0 c1 z : Nat) (w : World) (hg : 50 < len0 ∨ 50 < len1) :
    Calls Try.prog 5 #[.slice A0 len0 c0, .slice A1 len1 c1, .int .u8 z] w fun e w' => e = .returned (.bool true) ∧ Below w.heap.size w w' := by
  by_cases h : 50 < len0
  · go_enter Try.func5, Try.ntmps5
    go_wp2_with fail
    refine (works_any w).mono ?_
    rintro e w1 ⟨rfl, hb1⟩
    go_wp2
    go_ret
    exact ⟨rfl, hb1⟩
  · have h3 : decide ((50 : Int) < (len0 : Int)) = false := by simp; omega
    have h4 : decide ((50 : Int) < (len1 : Int)) = true := by simp; omega
    clear hg h
    go_enter Try.func5, Try.ntmps5
    go_wp2_with fail
    refine (works_any w).mono ?_
    rintro e w1 ⟨rfl, hb1⟩
    go_wp2
    go_ret
    exact ⟨rfl, hb1⟩

theorem back (A0 A1 : Option Addr) (ns : List Nat) (ts : List ByteArray) (c0 c1 z : Nat) (w : World) (hn : NumsAt w A0 ns) (ht : TextsAt w A1 ts) (hz : z ≤ 255) :
    Calls Try.prog 5 #[.slice A0 ns.length c0, .slice A1 ts.length c1, .int .u8 z] w fun e w' => e = .returned (.bool true) ∧ Below w.heap.size w w' := by
  by_cases hg : 50 < ns.length ∨ 50 < ts.length
  · exact back_great A0 A1 _ _ c0 c1 z w hg
  · exact back_small A0 A1 ns ts c0 c1 z w hn ht hz (by omega) (by omega)

theorem open_nums {H : Type} {enc : TypeId × Value → H} {W : World} {b : Nat} {sp : Nat → Bool} {hd : Bool} {a : Option Addr} {len cap : Nat} {d : DataW H} {p : List MemPlace}
    (h : DataW.Trod enc Try.prog W b sp hd 41 (.slice a len cap) d p) : ∃ ns : List Nat, ns.length = len ∧ NumsAt W a ns := by
  obtain ⟨fuel, hf⟩ := h
  rcases open_ints Try.underlying41 Try.underlying23 (by kernel_rfl) hf with ⟨hcs, _⟩ | ⟨x, l, c, zs, hcs, _, hl, hm, hz, _, hcell, hwz⟩
  · simp [Value.cells] at hcs
    obtain ⟨rfl, rfl, rfl⟩ := hcs
    exact ⟨[], rfl, fun h => absurd h (by simp)⟩
  · simp [Value.cells] at hcs
    obtain ⟨rfl, rfl, rfl⟩ := hcs
    have hlen : len ≤ zs.length := by rw [hz]; split <;> omega
    refine ⟨(zs.take len).map Int.toNat, by simp [Nat.min_eq_left hlen], fun hpos => ?_⟩
    have hpos' : 0 < len := by simp at hpos; omega
    have h00 := hcell 0 (by omega)
    have hlt := World.block_lt_of_cell? W _ h00
    obtain ⟨bb, off, spot⟩ := x
    have hspot : spot = none := by simpa [Addr.add] using World.cell?_spot h00
    subst hspot
    refine ⟨bb, off, rfl, by simpa [Addr.add] using hlt, fun i x hi => ?_⟩
    simp only [List.getElem?_map, Option.map_eq_some_iff, List.getElem?_take] at hi
    obtain ⟨n, hn, rfl⟩ := hi
    split at hn
    · have hjl : i < zs.length := (List.getElem?_eq_some_iff.1 hn).1
      have hw := bounds_u64 (hwz n (List.mem_of_getElem? hn))
      have ha : (⟨bb, off, none⟩ : Addr).add i = ⟨bb, off + i, none⟩ := by unfold Addr.add; split <;> simp_all
      have hc := hcell i hjl
      rw [ha] at hc
      rw [hc]
      have e : zs.getD i 0 = n := by simp [List.getD, hn]
      rw [e, Int.toNat_of_nonneg hw.1]
      exact ⟨rfl, by omega⟩
    · cases hn

theorem open_texts {H : Type} {enc : TypeId × Value → H} {W : World} {b : Nat} {sp : Nat → Bool} {hd : Bool} {a : Option Addr} {len cap : Nat} {d : DataW H} {p : List MemPlace}
    (h : DataW.Trod enc Try.prog W b sp hd 42 (.slice a len cap) d p) : ∃ ts : List ByteArray, ts.length = len ∧ TextsAt W a ts := by
  obtain ⟨fuel, hf⟩ := h
  rcases open_strings Try.underlying42 Try.underlying9 (by kernel_rfl) hf with ⟨hcs, _⟩ | ⟨x, l, c, ss, hcs, _, hl, hm, hz, _, hcell, hws⟩
  · simp [Value.cells] at hcs
    obtain ⟨rfl, rfl, rfl⟩ := hcs
    exact ⟨[], rfl, fun h => absurd h (by simp)⟩
  · simp [Value.cells] at hcs
    obtain ⟨rfl, rfl, rfl⟩ := hcs
    have hlen : len ≤ ss.length := by rw [hz]; split <;> omega
    refine ⟨ss.take len, by simp [Nat.min_eq_left hlen], fun hpos => ?_⟩
    have hpos' : 0 < len := by simp at hpos; omega
    have h00 := hcell 0 (by omega)
    have hlt := World.block_lt_of_cell? W _ h00
    obtain ⟨bb, off, spot⟩ := x
    have hspot : spot = none := by simpa [Addr.add] using World.cell?_spot h00
    subst hspot
    refine ⟨bb, off, rfl, by simpa [Addr.add] using hlt, fun i s hi => ?_⟩
    simp only [List.getElem?_take] at hi
    split at hi
    · have hjl : i < ss.length := (List.getElem?_eq_some_iff.1 hi).1
      have ha : (⟨bb, off, none⟩ : Addr).add i = ⟨bb, off + i, none⟩ := by unfold Addr.add; split <;> simp_all
      have hc := hcell i hjl
      rw [ha] at hc
      rw [hc]
      have e : ss.getD i ByteArray.empty = s := by simp [List.getD, hi]
      rw [e]
      exact ⟨rfl, hws s (List.mem_of_getElem? hi)⟩
    · cases hi

set_option maxRecDepth 100000 in
theorem back_lifted (os : Os) (started : os.Started) (H : Type) (enc : TypeId × Value → H) :
    ReturnsInHanded {} Try.checked os 5 .any (Rows.packBackSpec.pre6 enc Try.prog Try.f5 Rows.packBackRow.domain false) (Rows.packBackSpec.post enc Try.prog Try.f5 false true false false) := by
  refine returnsInHanded_of_change (C := Try.checked) own started (by kernel_rfl) Try.func5
    (ChangeSpec.witness6 (enc := enc) (C := Try.checked) false ⟨#[], #[.slice none 0 0, .slice none 0 0, .int .u8 0], []⟩ 8 (by kernel_rfl) (by kernel_rfl) (by kernel_rfl) (by kernel_rfl)) ?_
  intro W base args ds gs before hval0 hW hcnd _
  have hval : ∀ (j : Nat) t v, Try.f5.params[j]? = some t → args[j]? = some v → Value.okWide Try.prog W .any base t v := hval0
  have hW' := hW
  obtain ⟨p, q, hA0, hV, rfl, hfz, hnd⟩ := hW
  have hA : DataW.TrodAll enc Try.prog W 0 (fun _ => true) true Try.f5.params.toList args.toList ds p := hA0
  rw [Try.params5] at hA hval
  obtain ⟨v0, vs0, d0, ds0, p0, q0, hargs, rfl, rfl, h0, r0⟩ := trodAll_cons hA
  obtain ⟨v1, vs1, d1, ds1, p1, q1, rfl, rfl, rfl, h1, r1⟩ := trodAll_cons r0
  obtain ⟨v2, vs2, d2, ds2, p2, q2, rfl, rfl, rfl, h2, r2⟩ := trodAll_cons r1
  obtain ⟨rfl, rfl, rfl⟩ := trodAll_nil r2
  obtain rfl : args = #[v0, v1, v2] := by cases args; simp_all
  obtain ⟨rfl, rfl⟩ := trodVars_none hV
  obtain ⟨a0, len0, cap0, rfl⟩ := okWide_slice Try.underlying41 (hval 0 41 v0 rfl rfl)
  obtain ⟨a1, len1, cap1, rfl⟩ := okWide_slice Try.underlying42 (hval 1 42 v1 rfl rfl)
  have k0 := h0
  have k1 := h1
  have lt0 : ∀ x ∈ p0, x.block < W.heap.size := by obtain ⟨m, hm⟩ := k0; exact DataW.trod_lt m _ _ _ hm
  have lt1 : ∀ x ∈ p1, x.block < W.heap.size := by obtain ⟨m, hm⟩ := k1; exact DataW.trod_lt m _ _ _ hm
  obtain ⟨ns, rfl, w0⟩ := open_nums h0
  obtain ⟨ts, rfl, w1⟩ := open_texts h1
  obtain ⟨a2, rfl, rfl, rfl, w2⟩ := open_int Try.underlying5 (hval 2 5 v2 rfl rfl) h2
  have hb := bounds_u8 w2
  obtain ⟨z, rfl⟩ := Int.eq_ofNat_of_zero_le hb.1
  clear hA0 hval0
  refine (back a0 a1 ns ts cap0 cap1 z W w0 w1 (by omega)).mono fun e W' ⟨he, bel⟩ => ?_
  subst he
  exact ⟨_, rfl, _, _, _, [], _, [], hW', trodAll_mk1 (shut_bool Try.underlying4 _), (trodAll_cons_mk (Below.trod laidOut (by kernel_rfl) (of_decide_eq_true (by kernel_rfl)) k0 bel lt0) (trodAll_cons_mk (Below.trod laidOut (by kernel_rfl) (of_decide_eq_true (by kernel_rfl)) k1 bel lt1) (trodAll_cons_mk (shut_int Try.underlying5 w2) trodAll_mk0))), rfl, bel.frame _, fun h => by cases h⟩

/-- The statement. -/
theorem packBack_holds : Rows.PackBackSaid :=
  OpenClaim.holds_of_wide 5 Try.f5 rfl rfl rfl rfl rfl rfl rfl ⟨rfl, rfl, rfl, rfl, rfl⟩ rfl rfl rfl rfl rfl (by kernel_rfl) Try.func5 (by kernel_rfl)
    (of_decide_eq_true (by kernel_rfl)) (by unfold Func.isWrapper; first | (rw [if_pos (by decide +kernel)]; kernel_rfl) | (rw [if_neg (by decide +kernel)]; exact ⟨rfl, rfl⟩))
    (fun os started H enc _ => back_lifted os started H enc)
#print axioms packBack_holds
end Go.Proofs.Ytpmidopfdfplmaa
