/- The document's Injective. -/
import Derived.Test.YtfcjemedheccgaaDoorGbh
import Derived.BigQuiet
namespace Go.Proofs.YtfcjemedheccgaaDoor
set_option maxRecDepth 100000
open Go.RowKit

/-- One that is not wanted. -/
theorem still_skip {P : Program} {ops : Array Oper} {w : World} {Q : Act → Prop} {a : Act} {o : Oper} {rest : List Oper} (hw : Region.wanted o (yielded ops a.tmps) = false) (h : wpStill P ops w Q rest (a.put o.dst undef)) : wpStill P ops w Q (o :: rest) a :=
  wpStill_step fun K hK => by rw [if_neg (by rw [hw]; decide)]; exact hK _ h
set_option maxHeartbeats 1000000 in
theorem refInjective_any (A : Option Addr) (m cap : Nat) (l : List Ent) (hm : m ≤ 4000000) (w : World) (h : RowsAt w (.slice A m cap) 6 (l.map Ent.enc)) :
    Calls Tryd.prog 17 #[.slice A m cap] w fun e w' => e = .returned (.bool (injB l)) ∧ Below w.heap.size w w' := by
  have hlen := h.size.1
  rw [List.length_map] at hlen
  have H := Lib.hid h
  have HL := Lib.hid hlen
  have HN := Lib.hid hm
  obtain ⟨R, hR⟩ : ∃ q, q = injB l := ⟨_, rfl⟩
  have HR := Lib.hid hR
  rw [← hR]
  have ROW : Hid (∀ k x, l[k]? = some x → ∃ gl off, A = some ⟨gl, off, none⟩ ∧ gl < w.heap.size ∧ ∀ w', Below w.heap.size w w' → w'.cell? ⟨gl, off + k * 6, none⟩ = some (.string ⟨x.name.toArray⟩) ∧ w'.cell? ⟨gl, off + k * 6 + 1, none⟩ = some (.int .u64 (x.id : Int))) := Lib.hid (fun k x hx => by
    obtain ⟨gl, off, e, hgl, hc⟩ := H.out.row (fun c hc => (entC_one l c hc).1) (by decide) (by rw [List.getElem?_map, hx]; rfl : (l.map Ent.enc)[k]? = some x.enc)
    exact ⟨gl, off, e, hgl, fun w' b => ⟨(b.cell (p := ⟨gl, off + k * 6, none⟩) hgl).trans (hc 0 _ rfl), (b.cell (p := ⟨gl, off + k * 6 + 1, none⟩) hgl).trans (hc 1 _ rfl)⟩⟩)
  clear h hlen hm hR
  go_enter Tryd.func17, Tryd.ntmps17
  go_wp2_with fail
  go_loopw [3] (fun i wr => ∃ k : Nat, k ≤ m ∧ i = .int .i64 (k : Int) ∧ (∀ a ∈ l.take k, ∀ b ∈ l, a.id = b.id → a.name = b.name) ∧ Below w.heap.size w wr) (fun i _ => m - (intOf i).toNat)
  case atStart => exact ⟨0, Nat.zero_le _, rfl, fun a ha => by simp at ha, Below.refl _ _⟩
  case round =>
    obtain ⟨k, hk, rfl, hr, hb⟩ := hrel
    have I := Lib.hid hr
    have B0 := Lib.hid hb
    clear hr hb
    by_cases hlt : k < m
    · have dk : decide ((k : Int) < (m : Int)) = true := by simp; omega
      have jk : (k : Int) < (m : Int) := by omega
      have r4 : IntKind.i64.wrap ((k : Int) + 1) = ((k + 1 : Nat) : Int) := by have := HN.out; rw [IntWalk.i64_in _ (by omega)]; omega
      obtain ⟨x, hx⟩ : ∃ x, l[k]? = some x := ⟨_, List.getElem?_eq_getElem (by rw [← HL.out]; exact hlt)⟩
      obtain ⟨gl, off, rfl, hgl, hc⟩ := ROW.out k x hx
      have HC := Lib.hid hc
      have HT := Lib.hid (take_more hx)
      have HXM := Lib.hid (List.mem_of_getElem? hx)
      clear hx hc hgl
      go_wp2_with fail
      go_loopw [4] (fun i wr => ∃ j : Nat, j ≤ m ∧ i = .int .i64 (j : Int) ∧ (∀ b ∈ l.take j, x.id = b.id → x.name = b.name) ∧ Below w.heap.size w wr) (fun i _ => m - (intOf i).toNat)
      case atStart => exact ⟨0, Nat.zero_le _, rfl, fun a ha => by simp at ha, B0.out⟩
      case round =>
        rename_i wr0 _ wr
        obtain ⟨j, hj, rfl, hr, hb⟩ := hrel
        have J := Lib.hid hr
        have B1 := Lib.hid hb
        clear hr hb
        by_cases hlt2 : j < m
        · have dj : decide ((j : Int) < (m : Int)) = true := by simp; omega
          have jj : (j : Int) < (m : Int) := by omega
          have r5 : IntKind.i64.wrap ((j : Int) + 1) = ((j + 1 : Nat) : Int) := by have := HN.out; rw [IntWalk.i64_in _ (by omega)]; omega
          obtain ⟨y, hy⟩ : ∃ y, l[j]? = some y := ⟨_, List.getElem?_eq_getElem (by rw [← HL.out]; exact hlt2)⟩
          obtain ⟨gl', off', e', -, hc'⟩ := ROW.out j y hy
          injection e' with e'
          injection e' with e1 e2
          subst e1 e2
          have HC' := Lib.hid hc'
          have HT' := Lib.hid (take_more hy)
          have HYM := Lib.hid (List.mem_of_getElem? hy)
          clear hy hc'
          obtain ⟨d0, d1⟩ := HC.out wr B1.out
          obtain ⟨f0, f1⟩ := HC'.out wr B1.out
          by_cases hid : x.id = y.id
          · have q : ((x.id : Int) == (y.id : Int)) = true := by simp [hid]
            by_cases hn : x.name = y.name
            · have r : (x.name == y.name) = true := by simp [hn]
              have r' : (x.name != y.name) = false := by simp [hn]
              have J2 : Hid (∀ b ∈ l.take (j + 1), x.id = b.id → x.name = b.name) := Lib.hid (by
                intro b hb
                rw [HT'.out] at hb
                rcases List.mem_append.1 hb with k | k
                · exact J.out b k
                · rw [List.mem_singleton] at k; subst k; exact fun _ => hn)
              clear hid hn
              go_wp2_with fail
              go_quiet (fail)
              go_wp2
              exact ⟨⟨j + 1, by omega, by go_num, J2.out, below_drewN B1.out _⟩, by simp [intOf]; omega⟩
            · have r : (x.name == y.name) = false := by simp [hn]
              have r' : (x.name != y.name) = true := by simp [hn]
              have HV : Hid (R = false) := Lib.hid (by
                rw [HR.out, injB, decide_eq_false_iff_not]
                intro q
                exact hn (q x HXM.out y HYM.out hid))
              clear hid hn
              go_wp2_with fail
              go_quiet (fail)
              go_wp2
              go_ret
              exact ⟨by rw [HV.out]; rfl, below_drewN B1.out _⟩
          · have q : ((x.id : Int) == (y.id : Int)) = false := by simp; omega
            have J2 : Hid (∀ b ∈ l.take (j + 1), x.id = b.id → x.name = b.name) := Lib.hid (by
              intro b hb
              rw [HT'.out] at hb
              rcases List.mem_append.1 hb with k | k
              · exact J.out b k
              · rw [List.mem_singleton] at k; subst k; exact fun e => absurd e hid)
            clear hid
            go_wp2_with fail
            go_quiet (fail)
            go_wp2
            exact ⟨⟨j + 1, by omega, by go_num, J2.out, below_drewN B1.out _⟩, by simp [intOf]; omega⟩
        · have dj : decide ((j : Int) < (m : Int)) = false := by simp; omega
          have J2 : Hid (∀ a ∈ l.take (k + 1), ∀ b ∈ l, a.id = b.id → a.name = b.name) := Lib.hid (by
            have q := J.out
            rw [List.take_of_length_le (by rw [← HL.out]; omega)] at q
            intro a ha
            rw [HT.out] at ha
            rcases List.mem_append.1 ha with k | k
            · exact I.out a k
            · rw [List.mem_singleton] at k; subst k; exact q)
          go_wp2
          exact ⟨⟨k + 1, by omega, by go_num, J2.out, B1.out⟩, by simp [intOf]; omega⟩
    · have dk : decide ((k : Int) < (m : Int)) = false := by simp; omega
      have HV : Hid (R = true) := Lib.hid (by
        have q := I.out
        rw [List.take_of_length_le (by rw [← HL.out]; omega)] at q
        rw [HR.out, injB, decide_eq_true_eq]
        exact q)
      go_wp2
      go_ret
      exact ⟨by rw [HV.out]; rfl, B0.out⟩
end Go.Proofs.YtfcjemedheccgaaDoor
