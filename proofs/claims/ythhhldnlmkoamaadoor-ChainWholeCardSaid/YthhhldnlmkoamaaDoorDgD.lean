/- What the library's Concat (of two) answers. -/
import Derived.Test.YthhhldnlmkoamaaDoorDgC
import Derived.Test.YthhhldnlmkoamaaDoorGrow
namespace Go.Proofs.YthhhldnlmkoamaaDoor
open Go.RowKit

set_option maxHeartbeats 1000000 in
theorem concat_any (g : Nat) (v0 v1 : Value) (l0 l1 : List UInt8) (w : World) (c0 : w.cell? ⟨g, 0, none⟩ = some v0) (c1 : w.cell? ⟨g, 1, none⟩ = some v1) (h0 : BytesAt w v0 l0) (h1 : BytesAt w v1 l1) (hl0 : l0.length ≤ 1000000) (hl1 : l1.length ≤ 1000000) :
    Calls Tryd.prog 22 #[.slice (some ⟨g, 0, none⟩) 2 2] w fun e w' => ∃ v, e = .returned v ∧ BytesAt w' v (l0 ++ l1) ∧ Below w.heap.size w w' := by
  have H0 := Lib.hid h0
  have H1 := Lib.hid h1
  obtain ⟨A0, cap0, rfl, hc0, -⟩ := h0
  obtain ⟨A1, cap1, rfl, hc1, -⟩ := h1
  go_enter Tryd.func22, Tryd.ntmps22
  go_wp2_with fail
  go_loop [3, 11] (fun z i => (i = .int .i64 0 ∧ z = .int .i64 0) ∨ (i = .int .i64 1 ∧ z = .int .i64 (l0.length : Int)) ∨ (i = .int .i64 2 ∧ z = .int .i64 ((l0.length + l1.length : Nat) : Int))) (fun _ i => 2 - (intOf i).toNat)
  case atStart => exact Or.inl ⟨rfl, rfl⟩
  case round =>
    rcases hrel with ⟨rfl, rfl⟩ | ⟨rfl, rfl⟩ | ⟨rfl, rfl⟩
    · go_wp2
      exact ⟨Or.inr (Or.inl ⟨rfl, rfl⟩), by simp [intOf]⟩
    · go_wp2
      exact ⟨Or.inr (Or.inr ⟨rfl, by go_num⟩), by simp [intOf]⟩
    · have hgw : g < w.heap.size := World.block_lt_of_cell? w _ c0
      go_wp2_with fail
      have G := grow_any (l0.length + l1.length) (by omega) w
      rw [Int.natCast_add] at G
      refine G.mono ?_
      clear G
      rintro e w1 ⟨v, rfl, ho, hb⟩
      have HO := Lib.hid ho
      have HB := Lib.hid hb
      clear ho hb
      go_wp2_with fail
      go_loopw [6, 27] (fun v i wr => ((i = .int .i64 0 ∧ wr.ownsRow w.heap.size 5 1 v 0 []) ∨ (i = .int .i64 1 ∧ wr.ownsRow w.heap.size 5 1 v l0.length (bv l0)) ∨ (i = .int .i64 2 ∧ wr.ownsRow w.heap.size 5 1 v (l0.length + l1.length) (bv l0 ++ bv l1))) ∧ Below w.heap.size w wr) (fun _ i _ => 2 - (intOf i).toNat)
      case atStart => exact ⟨Or.inl ⟨rfl, HO.out⟩, HB.out⟩
      case round =>
        obtain ⟨hr, hb⟩ := hrel
        clear HO HB
        have HB := Lib.hid hb
        have k0 : wr.cell? ⟨g, 0, none⟩ = some (.slice A0 l0.length cap0) := (hb.cell (p := ⟨g, 0, none⟩) hgw).trans c0
        have k1 : wr.cell? ⟨g, 1, none⟩ = some (.slice A1 l1.length cap1) := (hb.cell (p := ⟨g, 1, none⟩) hgw).trans c1
        have K0 := Lib.hid (H0.out.below hb)
        have K1 := Lib.hid (H1.out.below hb)
        clear hb c0 c1
        rcases hr with ⟨rfl, ho⟩ | ⟨rfl, ho⟩ | ⟨rfl, ho⟩
        · have HO := Lib.hid ho
          clear ho
          go_wp2_with (with_reducible refine wpList_append_bytes rfl _ _ rfl w.heap.size _ _ _ ?hv HO.out _ _ ?hx K0.out ?hlen ?hbase ?_)
          case hv => exact rfl
          case hx => exact rfl
          case hlen => omega
          case hbase => exact HB.out.size
          intro v' w2 ho2 hg2
          have hlt := HO.out.lt
          have HO2 := Lib.hid ho2
          have HB2 := Lib.hid (HB.out.grown hg2 HB.out.size (fun k hk => (hlt k hk).1))
          clear ho2 hg2 hlt k0 k1
          go_wp2_with fail
          exact ⟨⟨Or.inr (Or.inl ⟨rfl, HO2.out⟩), HB2.out⟩, by simp [intOf]⟩
        · have HO := Lib.hid ho
          clear ho
          go_wp2_with (with_reducible refine wpList_append_bytes rfl _ _ rfl w.heap.size _ _ _ ?hv HO.out _ _ ?hx K1.out ?hlen ?hbase ?_)
          case hv => exact rfl
          case hx => exact rfl
          case hlen => omega
          case hbase => exact HB.out.size
          intro v' w2 ho2 hg2
          have hlt := HO.out.lt
          have HO2 := Lib.hid ho2
          have HB2 := Lib.hid (HB.out.grown hg2 HB.out.size (fun k hk => (hlt k hk).1))
          clear ho2 hg2 hlt k0 k1
          go_wp2_with fail
          exact ⟨⟨Or.inr (Or.inr ⟨rfl, HO2.out⟩), HB2.out⟩, by simp [intOf]⟩
        · have HY : Hid (BytesAt wr u6 (l0 ++ l1)) := BytesAt.of_own (base := w.heap.size) (by rw [List.length_append, bv_append]; exact ho)
          clear ho
          go_wp2
          go_ret
          exact ⟨_, rfl, HY.out, HB.out⟩
end Go.Proofs.YthhhldnlmkoamaaDoor
