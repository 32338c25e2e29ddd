/- Layer 23 as landed: slices of sessions: the library's Grow and Concat, has, behind, Put, Drop. -/
import Derived.Test.YtjohlnpalcmhbaaTbA
import Derived.Test.YtjohlnpalcmhbaaFoot
import Derived.Test.YtjohlnpalcmhbaaGenS
import Derived.Test.YtjohlnpalcmhbaaGenT
import Derived.Lib.AppendZerosOnto
import Derived.Deep.DeepCutAuto
import Derived.Deep.LoopGhost
namespace Go.Proofs.Ytjohlnpalcmhbaa
set_option maxRecDepth 100000
open Go.RowKit

/-! ### parts -/
/-- A block's cells are slices, each of just these sessions. -/
def PartsS (w : World) (g : Nat) (ls : List (List Ses)) : Prop :=
  g < w.heap.size ∧ ∀ k l, ls[k]? = some l → ∃ A cap, w.cell? ⟨g, k, none⟩ = some (.slice A l.length cap) ∧ RowsAt w (.slice A l.length cap) 20 (l.map Ses.enc)
theorem PartsS.below {w w' : World} {g : Nat} {ls : List (List Ses)} (h : PartsS w g ls) (hb : Below w.heap.size w w') : PartsS w' g ls :=
  ⟨Nat.lt_of_lt_of_le h.1 hb.size, fun k l hk => by
    obtain ⟨A, cap, hc, hB⟩ := h.2 k l hk
    exact ⟨A, cap, (hb.cell (p := ⟨g, k, none⟩) h.1).trans hc, hB.below hb⟩⟩
theorem PartsS.one {w : World} {g : Nat} {T : TypeId} {A : Option Addr} {m cap : Nat} {l : List Ses} (h : Whole w g T #[.slice A m cap]) (hr : RowsAt w (.slice A m cap) 20 (l.map Ses.enc)) : PartsS w g [l] :=
  ⟨h.lt, fun k x hk => by
    have hk0 : k = 0 := by have := (List.getElem?_eq_some_iff.1 hk).1; simp at this; omega
    subst hk0
    obtain rfl : l = x := by simpa using hk
    have e := hr.size.1
    rw [List.length_map] at e
    subst e
    exact ⟨A, cap, h.at_ 0, hr⟩⟩
theorem PartsS.two {w : World} {g : Nat} {T : TypeId} {A A' : Option Addr} {m cap m' cap' : Nat} {l l' : List Ses} (h : Whole w g T #[.slice A m cap, .slice A' m' cap']) (hr : RowsAt w (.slice A m cap) 20 (l.map Ses.enc)) (hr' : RowsAt w (.slice A' m' cap') 20 (l'.map Ses.enc)) : PartsS w g [l, l'] :=
  ⟨h.lt, fun k x hk => by
    have e := hr.size.1
    have e' := hr'.size.1
    rw [List.length_map] at e e'
    subst e e'
    match k, hk with
    | 0, hk =>
      obtain rfl : l = x := by simpa using hk
      exact ⟨A, cap, h.at_ 0, hr⟩
    | 1, hk =>
      obtain rfl : l' = x := by simpa using hk
      exact ⟨A', cap', h.at_ 1, hr'⟩
    | k + 2, hk => simp at hk⟩
theorem sflat_next {ls : List (List Ses)} {k : Nat} {l : List Ses} (h : ls[k]? = some l) : (ls.take (k + 1)).flatten = (ls.take k).flatten ++ l := by
  rw [List.take_add_one, h]; simp
theorem sflat_le (ls : List (List Ses)) (k : Nat) : (ls.take k).flatten.length ≤ ls.flatten.length := by
  conv => rhs; rw [← List.take_append_drop k ls, List.flatten_append, List.length_append]
  exact Nat.le_add_right _ _

theorem run_append_zeros (w : World) (ty : TypeId) (k : Nat) (h0 : 0 < k) (hk : k ≤ 1000000) :
    ∃ cap w', (Builtin.append_ #[22, 3] ty #[.slice none 0 0, .int .i64 (k : Int)]).run Try.prog w = .ok (.slice (some ⟨w.heap.size, 0, none⟩) k cap) w' ∧ k ≤ cap ∧
      OwnRows w' w.heap.size 36 20 (.slice (some ⟨w.heap.size, 0, none⟩) 0 cap) [] ∧ Below w.heap.size w w' := by
  obtain ⟨i0, z, hi0, hz0, hz1, hz2, hby⟩ := Ses.isElem.zero
  have hz1' : i0.size = 20 := hz1
  have hz2' : z.cells.size = 20 := hz2
  have hb1 : k * i0.bytes ≤ 1000000 * 8000 := Nat.mul_le_mul hk hby
  have hb2 : k * i0.bytes ≤ 281474976710656 := Nat.le_trans hb1 (by decide)
  have q := Lib.run_append_grow_zeros (P := Try.prog) w 22 3 ty 36 i0 z .i64 .i64 Try.underlying22 Try.underlying3 hi0 hz0 none 0 0 []
    (by simp [Builtin.firstCells]) k h0 (by omega) (by omega) (by omega) hb2 (by rw [nextslicecap_zero (by omega), Nat.zero_add]; exact hb2)
  rw [Nat.zero_add] at q
  refine ⟨_, _, q, grownCap_ge _ _ _ _, ⟨World.ownsRow_made w.drew _ _ (Nat.le_refl _) (grownCap_le_maxLen _ _ _ _ (by simp only [maxLen]; omega)) ?_, fun c hc => by cases hc⟩, (Below.refl _ _).drew.alloc (Nat.le_refl _) _⟩
  have := grownCap_ge w k 0 36
  simp [size_zeroCells, hz2']
  omega

theorem wpList_append_zeros {w : World} {ops : Array Oper} {rest : List Oper} {o : Oper} {a : Act} {Q : Exit → Act → World → Prop} (hgd : o.guard = none) (s x : Operand)
    (ho : o.op = .call { callee := .builtin .append, args := #[s, x], argTypes := #[22, 3] }) (k : Nat) (hs : a.eval s = .slice none 0 0) (hx : a.eval x = .int .i64 (k : Int)) (h0 : 0 < k) (hk : k ≤ 1000000)
    (h : ∀ cap w', k ≤ cap → OwnRows w' w.heap.size 36 20 (.slice (some ⟨w.heap.size, 0, none⟩) 0 cap) [] → Below w.heap.size w w' → wpList Try.prog ops Q rest (a.put o.dst (.slice (some ⟨w.heap.size, 0, none⟩) k cap)) w') : wpList Try.prog ops Q (o :: rest) a w := by
  refine wpList_plain hgd fun K hK => ?_
  obtain ⟨cap, w', hr, h1, h2, h3⟩ := run_append_zeros w o.type k h0 hk
  have q := hK _ _ (h cap w' h1 h2 h3)
  unfold Oper.wp execOp
  simp only [ho, resolve, invoke, builtin, Sem.run_bind, Sem.run_pure, Result.andThen_ok, List.map_toArray, List.map_cons, List.map_nil, hs, hx, hr]
  exact q

set_option maxHeartbeats 1000000 in
theorem growS_any (n : Nat) (hn : n ≤ 1000000) (w : World) :
    Calls Try.prog 49 #[.slice none 0 0, .int .i64 (n : Int)] w fun e w' => ∃ v, e = .returned v ∧ OwnRows w' w.heap.size 36 20 v [] ∧ Below w.heap.size w w' := by
  by_cases h0 : n = 0
  · subst h0
    go_enter Try.func49, Try.ntmps49
    go_wp2
    go_ret
    exact ⟨_, rfl, OwnRows.nil _ _ _ _, Below.refl _ _⟩
  · have hp : 0 < n := by omega
    have d0 : decide ((n : Int) < 0) = false := by simp
    have d1 : decide ((0 : Int) < (n : Int)) = true := by simp; omega
    go_enter Try.func49, Try.ntmps49
    go_wp2_with (with_reducible refine wpList_append_zeros rfl _ _ rfl n ?hs ?hx hp hn ?_)
    case hs => exact rfl
    case hx => exact rfl
    intro cap w1 hc ho hb
    have HO := Lib.hid ho
    have hcp : cap ≠ 0 := by omega
    clear ho
    go_wp2
    go_ret
    exact ⟨_, rfl, HO.out, hb⟩

set_option maxHeartbeats 1000000 in
theorem concatS_any (g n : Nat) (ls : List (List Ses)) (hn : n = ls.length) (base : Nat) (w : World) (hbase : base ≤ w.heap.size) (h : PartsS w g ls) (hn1 : n ≤ 1000000) (hl : ls.flatten.length ≤ 1000000) :
    Calls Try.prog 38 #[.slice (some ⟨g, 0, none⟩) n n] w fun e w' => ∃ v, e = .returned v ∧ OwnRows w' base 36 20 v (ls.flatten.map Ses.enc) ∧ Below w.heap.size w w' := by
  have H := Lib.hid h
  have HN := Lib.hid hn
  have HL := Lib.hid hl
  have HZ := Lib.hid hbase
  have hgw := h.1
  clear h hn hl hbase
  go_enter Try.func38, Try.ntmps38
  go_wp2_with fail
  go_loop [3, 11] (fun z i => ∃ k t : Nat, k ≤ n ∧ i = .int .i64 (k : Int) ∧ z = .int .i64 (t : Int) ∧ t = (ls.take k).flatten.length) (fun _ i => n - (intOf i).toNat)
  case atStart => exact ⟨0, 0, Nat.zero_le _, rfl, rfl, by simp⟩
  case round =>
    obtain ⟨k, t, hk, rfl, rfl, ht⟩ := hrel
    have HT := Lib.hid ht
    have ht1 : t ≤ 1000000 := by rw [ht]; exact Nat.le_trans (sflat_le ls k) HL.out
    clear ht
    by_cases hlt : k < n
    · have d : decide ((k : Int) < (n : Int)) = true := by simp; omega
      obtain ⟨l, hl⟩ : ∃ l, ls[k]? = some l := ⟨_, List.getElem?_eq_getElem (by rw [← HN.out]; exact hlt)⟩
      obtain ⟨A, cap, hc, hB⟩ := H.out.2 k l hl
      have hT2 : t + l.length = (ls.take (k + 1)).flatten.length := by rw [sflat_next hl, List.length_append, ← HT.out]
      have HT2 := Lib.hid hT2
      have ht2 : t + l.length ≤ 1000000 := by rw [hT2]; exact Nat.le_trans (sflat_le ls (k + 1)) HL.out
      have tw : IntKind.i64.wrap ((t : Int) + (l.length : Int)) = ((t + l.length : Nat) : Int) := by rw [IntWalk.i64_in _ (by omega)]; omega
      have d2 : decide (((t + l.length : Nat) : Int) < 0) = false := by simp; omega
      clear hT2 hB hl
      generalize t + l.length = t2 at *
      go_wp2_with fail
      exact ⟨⟨k + 1, t2, by omega, by go_num, rfl, HT2.out⟩, by simp [intOf]; omega⟩
    · have hk' : k = n := by omega
      have d : decide ((k : Int) < (n : Int)) = false := by simp; omega
      subst hk'
      have G := Lib.hid (growS_any t (by omega) w)
      clear hlt HT
      go_wp2_with fail
      refine G.out.mono ?_
      rintro e w1 ⟨v, rfl, ho, hb⟩
      have HO := Lib.hid ho
      have HB := Lib.hid hb
      clear ho hb G d hk ht1
      go_wp2_with fail
      go_loopw [6, 27] (fun v i wr => ∃ j : Nat, j ≤ k ∧ i = .int .i64 (j : Int) ∧ OwnRows wr w.heap.size 36 20 v ((ls.take j).flatten.map Ses.enc) ∧ Below w.heap.size w wr) (fun _ i _ => k - (intOf i).toNat)
      case atStart => exact ⟨0, Nat.zero_le _, rfl, HO.out, HB.out⟩
      case round =>
        obtain ⟨j, hj, rfl, ho, hb⟩ := hrel
        clear HO HB
        have HO := Lib.hid ho
        have HB := Lib.hid hb
        have P := Lib.hid (H.out.below HB.out)
        clear ho hb
        by_cases hjk : j < k
        · have d : decide ((j : Int) < (k : Int)) = true := by simp; omega
          obtain ⟨l, hl⟩ : ∃ l, ls[j]? = some l := ⟨_, List.getElem?_eq_getElem (by rw [← HN.out]; exact hjk)⟩
          have HF := Lib.hid (sflat_next hl)
          obtain ⟨A, cap, hc, hB⟩ := P.out.2 j l hl
          have HBy := Lib.hid hB
          have hs2 : ((ls.take j).flatten.map Ses.enc).length + (l.map Ses.enc).length ≤ 10000000 := by
            have q := sflat_le ls (j + 1)
            rw [HF.out, List.length_append] at q
            rw [List.length_map, List.length_map]
            have := HL.out
            omega
          clear hB hl
          go_wp2_with (with_reducible refine wpList_append_rows Ses.isElem rfl _ _ rfl _ ?hv HO.out _ _ ?hx HBy.out (fun c hc => by obtain ⟨y, _, rfl⟩ := List.mem_map.1 hc; exact Ses.fits _) ?hlen ?hbase ?_)
          case hv => exact rfl
          case hx => exact rfl
          case hlen => exact hs2
          case hbase => exact HB.out.size
          intro v' w2 ho2 hg2
          have hlt := HO.out.lt
          have HO2 : Hid (OwnRows w2 w.heap.size 36 20 v' ((ls.take (j + 1)).flatten.map Ses.enc)) := Lib.hid (ho2.eqL (by rw [HF.out, List.map_append]; simp [List.map_flatten, List.map_take]))
          have HB2 := Lib.hid (HB.out.grown hg2 HB.out.size (fun k hk => (hlt k hk).1))
          clear ho2 hg2 hlt hc
          go_wp2_with fail
          exact ⟨⟨j + 1, by omega, by go_num, HO2.out, HB2.out⟩, by simp [intOf]; omega⟩
        · have d : decide ((j : Int) < (k : Int)) = false := by simp; omega
          have hjk' : j = k := by omega
          have HY : Hid (OwnRows wr w.heap.size 36 20 u6 (ls.flatten.map Ses.enc)) := by
            have q := HO.out
            rw [List.take_of_length_le (by have := HN.out; omega)] at q
            exact q
          clear HO
          go_wp2
          go_ret
          exact ⟨_, rfl, HY.out.less HZ.out, HB.out⟩
end Go.Proofs.Ytjohlnpalcmhbaa
