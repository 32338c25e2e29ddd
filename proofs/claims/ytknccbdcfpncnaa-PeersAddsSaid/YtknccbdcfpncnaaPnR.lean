/- Layer 24: the document's Place, less, Ahead, Drop. -/
import Derived.Test.YtknccbdcfpncnaaPnM
import Derived.Test.YtknccbdcfpncnaaSlPeS
import Derived.Test.YtknccbdcfpncnaaAcR
import Derived.Test.YtknccbdcfpncnaaStr
import Derived.BigQuiet
namespace Go.Proofs.Ytknccbdcfpncnaa
set_option maxRecDepth 100000
open Go.RowKit

set_option maxRecDepth 100000
set_option maxHeartbeats 1000000 in
theorem refPlace_any (A : Option Addr) (m cap : Nat) (l : List Peer) (n : List UInt8) (w : World) (hm : m ≤ 1000000) (h : RowsAt w (.slice A m cap) 8 (l.map Peer.enc)) :
    Calls Try.prog 18 #[.slice A m cap, .string ⟨n.toArray⟩] w fun e w' => e = .returned (.int .i64 (placeQ l n)) ∧ Below w.heap.size w w' := by
  have hlen := h.size.1
  rw [List.length_map] at hlen
  have H := Lib.hid h
  have HL := Lib.hid hlen
  obtain ⟨R, hR⟩ : ∃ R, R = placeQ l n := ⟨_, rfl⟩
  have HR : Hid (firstPe (nameQ n) (l.drop 0) 0 = R) := Lib.hid (by rw [hR]; rfl)
  rw [← hR]
  clear h hlen hR
  go_enter Try.func18, Try.ntmps18
  go_wp2_with fail
  go_loop [5] (fun i => ∃ k : Nat, k ≤ m ∧ i = .int .i64 (k : Int) ∧ firstPe (nameQ n) (l.drop k) k = R) (fun i => m - (intOf i).toNat)
  case atStart => exact ⟨0, Nat.zero_le _, rfl, HR.out⟩
  case round =>
    obtain ⟨k, hk, rfl, hr⟩ := hrel
    have HK := Lib.hid hr
    clear hr HR
    by_cases hlt : k < m
    · have dk : decide ((k : Int) < (m : Int)) = true := by simp; omega
      obtain ⟨x, hx⟩ : ∃ x, l[k]? = some x := ⟨_, List.getElem?_eq_getElem (by rw [← HL.out]; exact hlt)⟩
      obtain ⟨b, off, rfl, hc⟩ := row_ofPe H.out hx
      have HD := Lib.hid (drop_at hx)
      have c0 : w.cell? ⟨b, off + k * 8, none⟩ = some (.string ⟨x.entry.name.toArray⟩) := hc w (Below.refl _ _) 0 _ rfl
      have jk : (k : Int) < (m : Int) := by omega
      have r4 : IntKind.i64.wrap ((k : Int) + 1) = ((k + 1 : Nat) : Int) := by rw [IntWalk.i64_in _ (by omega)]; omega
      obtain ⟨q, hq⟩ : ∃ q, q = nameQ n x := ⟨_, rfl⟩
      have HV : Hid ((if q = true then (k : Int) else firstPe (nameQ n) (l.drop (k + 1)) (k + 1)) = R) := Lib.hid (by have t := HK.out; rw [HD.out, firstPe, ← hq] at t; exact t)
      have d1 : (x.entry.name == n) = q := by rw [hq, nameQ, Bool.eq_iff_iff, beq_iff_eq, decide_eq_true_eq]
      clear hc hx hq HK HD
      cases q with
      | true =>
        have HW : Hid ((k : Int) = R) := Lib.hid HV.out
        clear HV
        go_wp2
        go_ret
        exact ⟨by rw [← HW.out]; rfl, Below.refl _ _⟩
      | false =>
        have HW : Hid (firstPe (nameQ n) (l.drop (k + 1)) (k + 1) = R) := Lib.hid HV.out
        clear HV
        go_wp2
        exact ⟨⟨k + 1, by omega, by go_num, HW.out⟩, by simp [intOf]; omega⟩
    · obtain rfl : k = m := by omega
      have dk : decide ((k : Int) < (k : Int)) = false := by simp
      have HV : Hid ((-1 : Int) = R) := Lib.hid (by have q := HK.out; rw [List.drop_eq_nil_of_le (by rw [← HL.out]; exact Nat.le_refl _)] at q; exact q)
      go_wp2
      go_ret
      exact ⟨by rw [← HV.out]; rfl, Below.refl _ _⟩

theorem dropQ_step (l : List Peer) (n : List UInt8) (k : Nat) (x : Peer) (hx : l[k]? = some x) :
    dropQ (l.take (k + 1)) n = dropQ (l.take k) n ++ (if x.entry.name = n then [] else [x]) := by
  have ht : l.take (k + 1) = l.take k ++ [x] := by rw [List.take_add_one, hx]; rfl
  rw [ht, dropQ, dropQ, List.filter_append]
  by_cases e : x.entry.name = n
  · simp [e, nameQ]
  · simp [e, nameQ]
set_option maxHeartbeats 1000000 in
theorem refDrop_any (A : Option Addr) (m cap : Nat) (l : List Peer) (n : List UInt8) (base : Nat) (w : World) (hb : base ≤ w.heap.size) (hl : l.length ≤ 100000) (h : RowsAt w (.slice A m cap) 8 (l.map Peer.enc)) :
    Calls Try.prog 14 #[.slice A m cap, .string ⟨n.toArray⟩] w fun e w' => ∃ v, e = .returned v ∧ OwnRows w' base 27 8 v ((dropQ l n).map Peer.enc) ∧ Below w.heap.size w w' := by
  have hm : m = l.length := by have := h.size.1; simpa using this
  subst hm
  have H := Lib.hid h
  have HB := Lib.hid hb
  have HL := Lib.hid hl
  clear h hb hl
  go_enter Try.func14, Try.ntmps14
  go_wp2_with fail
  go_loopw [5, 6] (fun v j wr => ∃ k : Nat, k ≤ l.length ∧ j = .int .i64 (k : Int) ∧ OwnRows wr w.heap.size 27 8 v ((dropQ (l.take k) n).map Peer.enc) ∧ Below w.heap.size w wr) (fun _ j _ => l.length - (intOf j).toNat)
  case atStart => exact ⟨0, Nat.zero_le _, rfl, OwnRows.nil _ _ _ _, Below.refl _ _⟩
  case round =>
    obtain ⟨k, hk, rfl, ho, hb⟩ := hrel
    have O0 := Lib.hid ho
    have B0 := Lib.hid hb
    clear ho hb
    by_cases hlt : k < l.length
    · have dk : decide ((k : Int) < (l.length : Int)) = true := by simp; omega
      obtain ⟨x, hx⟩ : ∃ x, l[k]? = some x := ⟨_, List.getElem?_eq_getElem hlt⟩
      obtain ⟨b, off, rfl, hc⟩ := row_ofPe H.out hx
      have HX := Lib.hid (hc wr B0.out)
      have c2 : wr.cell? ⟨b, off + k * 8, none⟩ = some (.string ⟨x.entry.name.toArray⟩) := hc wr B0.out 0 _ rfl
      have jk : (k : Int) < (l.length : Int) := by omega
      have r4 : IntKind.i64.wrap ((k : Int) + 1) = ((k + 1 : Nat) : Int) := by have := HL.out; rw [IntWalk.i64_in _ (by omega)]; omega
      have HS := Lib.hid (dropQ_step l n k x hx)
      have HN : Hid (((dropQ (l.take k) n).map Peer.enc).length + [x.enc].length ≤ 10000000) := Lib.hid (by have h1 := List.length_filter_le (fun s : Peer => !nameQ n s) (l.take k); have := HL.out; rw [List.length_take] at h1; rw [List.length_map, List.length_singleton, dropQ]; omega)
      clear hc hx
      by_cases he : x.entry.name = n
      · have d5 : (x.entry.name == n) = true := by rw [beq_iff_eq]; exact he
        have HE : Hid (dropQ (l.take (k + 1)) n = dropQ (l.take k) n) := Lib.hid (by rw [HS.out, if_pos he, List.append_nil])
        clear he
        go_wp2
        exact ⟨⟨k + 1, by omega, by go_num, by rw [HE.out]; exact O0.out, B0.out⟩, by simp [intOf]; omega⟩
      · have d5 : (x.entry.name == n) = false := by rw [beq_eq_false_iff_ne]; exact he
        have HE : Hid (dropQ (l.take (k + 1)) n = dropQ (l.take k) n ++ [x]) := Lib.hid (by rw [HS.out, if_neg he])
        clear he
        go_wp2_with (first | (with_reducible refine wpList_load_rec Peer.isRec rfl _ rfl b (off + k * 8) (by with_unfolding_all exact rfl) x.enc (Peer.len _) HX.out ?_) | (with_reducible refine Peer.wpList_one rfl _ rfl x (by with_unfolding_all exact rfl) ?_))
        intro w2 b2 y2 z2
        have Y2 := Lib.hid y2
        have O2 := Lib.hid (O0.out.below b2 rfl)
        have B2 := Lib.hid (B0.out.trans (b2.mono B0.out.size))
        clear b2 y2 z2 HX O0 B0 c2
        go_wp2_with (with_reducible refine wpList_append_rows Peer.isElem rfl _ _ rfl u5 (by with_unfolding_all exact rfl) O2.out _ [x.enc] (by with_unfolding_all exact rfl) Y2.out (fun c hc => by rw [List.mem_singleton] at hc; rw [hc]; exact Peer.fits _) HN.out B2.out.size ?_)
        intro v3 w3 o3 q3
        have O3 : Hid (OwnRows w3 w.heap.size 27 8 v3 ((dropQ (l.take (k + 1)) n).map Peer.enc)) := Lib.hid (o3.eqL (by rw [HE.out, List.map_append]; rfl))
        have B3 := Lib.hid (B2.out.grown q3 B2.out.size (fun k hk => (O2.out.lt k hk).1))
        clear o3 q3 O2 B2 Y2
        go_wp2
        exact ⟨⟨k + 1, by omega, by go_num, O3.out, B3.out⟩, by simp [intOf]; omega⟩
    · have hkl : k = l.length := by omega
      have dk : decide ((k : Int) < (l.length : Int)) = false := by simp; omega
      have HV : Hid (OwnRows wr w.heap.size 27 8 u5 ((dropQ l n).map Peer.enc)) := Lib.hid (O0.out.eqL (by rw [hkl, List.take_length]))
      clear O0
      go_wp2
      go_ret
      exact ⟨_, rfl, HV.out.less HB.out, B0.out⟩

theorem bl_drop {a b : List UInt8} {k : Nat} {x y : UInt8} (hx : a[k]? = some x) (hy : b[k]? = some y) (h : a.take k = b.take k) : Go.Op.bytesLess a b = (decide (x < y) || ((x == y) && Go.Op.bytesLess (a.drop (k + 1)) (b.drop (k + 1)))) := by
  induction k generalizing a b with
  | zero =>
    cases a with
    | nil => simp at hx
    | cons u a =>
      cases b with
      | nil => simp at hy
      | cons v b =>
        simp only [List.getElem?_cons_zero, Option.some.injEq] at hx hy
        subst hx hy
        simp [Go.Op.bytesLess]
  | succ k ih =>
    cases a with
    | nil => simp at hx
    | cons u a =>
      cases b with
      | nil => simp at hy
      | cons v b =>
        rw [List.getElem?_cons_succ] at hx hy
        rw [List.take_succ_cons, List.take_succ_cons] at h
        injection h with h1 h2
        subst h1
        have e := ih hx hy h2
        rw [List.drop_succ_cons, List.drop_succ_cons, ← e]
        simp [Go.Op.bytesLess]
theorem bl_short {a b : List UInt8} (k : Nat) (h : a.take k = b.take k) (hk : k = min a.length b.length) : Go.Op.bytesLess a b = decide (a.length < b.length) := by
  induction k generalizing a b with
  | zero =>
    cases a with
    | nil => cases b <;> simp [Go.Op.bytesLess]
    | cons u a =>
      cases b with
      | nil => simp [Go.Op.bytesLess]
      | cons v b => simp at hk
  | succ k ih =>
    cases a with
    | nil => simp at hk
    | cons u a =>
      cases b with
      | nil => simp at hk
      | cons v b =>
        rw [List.take_succ_cons, List.take_succ_cons] at h
        injection h with h1 h2
        subst h1
        have e := ih h2 (by simp only [List.length_cons] at hk; omega)
        simp [Go.Op.bytesLess, e]
theorem take_same {a b : List UInt8} {k : Nat} {x : UInt8} (hx : a[k]? = some x) (hy : b[k]? = some x) (h : a.take k = b.take k) : a.take (k + 1) = b.take (k + 1) := by
  rw [List.take_add_one, List.take_add_one, hx, hy, h]
set_option maxHeartbeats 1000000 in
theorem refLess_any (a b : List UInt8) (ha : a.length ≤ 1000000) (hb : b.length ≤ 1000000) (w : World) :
    Calls Try.prog 44 #[.string ⟨a.toArray⟩, .string ⟨b.toArray⟩] w fun e w' => e = .returned (.bool (Go.Op.bytesLess a b)) ∧ Below w.heap.size w w' := by
  have HA := Lib.hid ha
  have HB := Lib.hid hb
  obtain ⟨R, hR⟩ : ∃ R, R = Go.Op.bytesLess a b := ⟨_, rfl⟩
  have HR := Lib.hid hR
  rw [← hR]
  clear hR ha hb
  go_enter Try.func44, Try.ntmps44
  go_wp2_with fail
  go_loopw [5] (fun i wr => ∃ k : Nat, k ≤ a.length ∧ k ≤ b.length ∧ i = .int .i64 (k : Int) ∧ a.take k = b.take k ∧ Below w.heap.size w wr) (fun i _ => a.length - (intOf i).toNat)
  case atStart => exact ⟨0, Nat.zero_le _, Nat.zero_le _, rfl, rfl, Below.refl _ _⟩
  case round =>
    obtain ⟨k, hka, hkb, rfl, hr, hbl⟩ := hrel
    have HK := Lib.hid hr
    have B0 := Lib.hid hbl
    clear hr hbl
    by_cases h1 : k < a.length
    · have d1 : decide ((k : Int) < (a.length : Int)) = true := by simp; omega
      have d1n : decide (k < a.length) = true := by simp; omega
      by_cases h2 : k < b.length
      · have d2 : decide ((k : Int) < (b.length : Int)) = true := by simp; omega
        have d2n : decide (k < b.length) = true := by simp; omega
        obtain ⟨x, hx⟩ : ∃ x, a[k]? = some x := ⟨_, List.getElem?_eq_getElem h1⟩
        obtain ⟨y, hy⟩ : ∃ y, b[k]? = some y := ⟨_, List.getElem?_eq_getElem h2⟩
        have j1 : (k : Int) < (a.length : Int) := by omega
        have j2 : (k : Int) < (b.length : Int) := by omega
        have rx := str_at a k x hx
        have ry := str_at b k y hy
        have r4 : IntKind.i64.wrap ((k : Int) + 1) = ((k + 1 : Nat) : Int) := by have := HA.out; rw [IntWalk.i64_in _ (by omega)]; omega
        have HD := Lib.hid (bl_drop hx hy HK.out)
        have HX := Lib.hid (And.intro hx hy)
        clear hx hy
        by_cases e : x = y
        · have HT : Hid (a.take (k + 1) = b.take (k + 1)) := Lib.hid (take_same HX.out.1 (by rw [e]; exact HX.out.2) HK.out)
          have e1 : ((x.toNat : Int) != (y.toNat : Int)) = false := by rw [e]; simp
          clear e HD
          go_wp2_with fail
          go_quiet (fail)
          go_wp2
          exact ⟨⟨k + 1, by omega, by omega, by go_num, HT.out, below_drewN B0.out _⟩, by simp [intOf]; omega⟩
        · have e1 : ((x.toNat : Int) != (y.toNat : Int)) = true := by
            rw [bne_iff_ne]; intro q; exact e (UInt8.toNat_inj.1 (by omega))
          have HV : Hid (R = decide (x < y)) := Lib.hid (by
            rw [HR.out, HD.out, show (x == y) = false by rw [beq_eq_false_iff_ne]; exact e, Bool.false_and, Bool.or_false])
          clear e HD
          go_wp2_with fail
          go_quiet (fail)
          go_wp2_with fail
          go_quiet (fail)
          go_wp2
          go_ret
          refine ⟨?_, below_drewN (below_drewN B0.out _) _⟩
          rw [HV.out]
          rfl
      · have d2 : decide ((k : Int) < (b.length : Int)) = false := by simp; omega
        have d2n : decide (k < b.length) = false := by simp; omega
        have HV : Hid (R = decide (a.length < b.length)) := Lib.hid (by rw [HR.out]; exact bl_short k HK.out (by omega))
        clear h1 h2
        go_wp2
        go_ret
        refine ⟨?_, B0.out⟩
        rw [HV.out]
        simp
    · have d1 : decide ((k : Int) < (a.length : Int)) = false := by simp; omega
      have d1n : decide (k < a.length) = false := by simp; omega
      have HV : Hid (R = decide (a.length < b.length)) := Lib.hid (by rw [HR.out]; exact bl_short k HK.out (by omega))
      clear h1
      go_wp2
      go_ret
      refine ⟨?_, B0.out⟩
      rw [HV.out]
      simp

end Go.Proofs.Ytknccbdcfpncnaa
