/- Package keys, as landed: salt, info, Mine. -/
import Derived.Test.YtieidemmajdpmaaDoorGi
import Derived.Test.YtieidemmajdpmaaDoorGk
import Derived.Deep.LoopGhost
namespace Go.Proofs.YtieidemmajdpmaaDoor
set_option maxRecDepth 100000
open Go.RowKit

theorem map_at {α : Type} {f : α → List Value} {l : List α} {k : Nat} {x : α} (h : l[k]? = some x) : (l.map f)[k]? = some (f x) := by rw [List.getElem?_map, h]; rfl
theorem entC_len (l : List Ent) : ∀ c ∈ l.map Ent.enc, c.length = 6 := fun c hc => by
  obtain ⟨x, -, rfl⟩ := List.mem_map.1 hc
  rfl

set_option maxRecDepth 100000 in
set_option maxHeartbeats 1000000 in
theorem keSalt_any (f s : Nat) (w : World) :
    Calls Tryd.prog 14 #[.int .u64 (f : Int), .int .u64 (s : Int)] w fun e w' => ∃ v', e = .returned v' ∧ BytesAt w' v' (saltL f s) ∧ Below w.heap.size w w' := by
  have C0 := num_own (.slice none 0 0) [] f 8 w.heap.size w (World.ownsRow_nil w _ _ _) (by decide) (by decide) (by decide) (Nat.le_refl _)
  rw [List.nil_append] at C0
  have C0 := Lib.hid C0
  have HS : Hid (saltL f s = be 8 f ++ be 8 s) := Lib.hid rfl
  go_enter Tryd.func14, Tryd.ntmps14
  go_wp2_with fail
  refine C0.out.mono ?_
  rintro e w1 ⟨v1, rfl, o1, b1⟩
  have B1 := Lib.hid b1
  have C1 := Lib.hid (num_own v1 (be 8 f) s 8 w.heap.size w1 o1 (by decide) (by decide) (by rw [be_length]; decide) b1.size)
  clear o1 b1 C0
  go_wp2_with fail
  refine C1.out.mono ?_
  rintro e w2 ⟨v2, rfl, o2, b2⟩
  have B2 := Lib.hid (B1.out.trans b2)
  have O2 := Lib.hid (BytesAt.of_own o2)
  rw [← HS.out] at O2
  clear o2 b2 C1
  go_wp2
  go_ret
  exact ⟨_, rfl, O2.out, B2.out⟩

set_option maxRecDepth 100000 in
set_option maxHeartbeats 1000000 in
theorem keInfo_any (A : Option Addr) (n cap : Nat) (l : List Ent) (w : World) (hr : RowsAt w (.slice A n cap) 6 (l.map Ent.enc)) (hl : l.length ≤ 8) (hall : ∀ x ∈ l, x.name.length ≤ 1000 ∧ x.tag.length ≤ 1000) :
    Calls Tryd.prog 15 #[.slice A n cap] w fun e w' => ∃ v', e = .returned v' ∧ BytesAt w' v' (infoL l) ∧ Below w.heap.size w w' := by
  have hn : n = l.length := by have := hr.size.1; simpa using this
  have HL := Lib.hid hn
  have HA := Lib.hid hr
  have HM := Lib.hid hl
  have HX := Lib.hid hall
  have HS : Hid (∀ k, (infoL (l.take k)).length ≤ 900000) := Lib.hid (fun k => by
    have h1 := infoL_most (l.take k)
    rw [List.length_take] at h1
    omega)
  have HZ : Hid (infoL (l.take 0) = sessionHead) := Lib.hid (by simp [infoL])
  have HW : Hid (infoL (l.take n) = infoL l) := Lib.hid (by rw [List.take_of_length_le (by omega)])
  clear hr hl hall hn
  go_enter Tryd.func15, Tryd.ntmps15
  have rL := session_conv w
  have y1 := session_lit w
  have b1 : Below w.heap.size w (w.alloc (.cells #[.int .u8 99, .int .u8 97, .int .u8 114, .int .u8 99, .int .u8 97, .int .u8 110, .int .u8 101, .int .u8 116, .int .u8 32, .int .u8 115, .int .u8 101, .int .u8 115, .int .u8 115, .int .u8 105, .int .u8 111, .int .u8 110] 5 (16, 17))) := (Below.refl _ _).alloc (Nat.le_refl _) _
  have B1 := Lib.hid b1
  have L1 : Hid (BytesAt (w.alloc (.cells #[.int .u8 99, .int .u8 97, .int .u8 114, .int .u8 99, .int .u8 97, .int .u8 110, .int .u8 101, .int .u8 116, .int .u8 32, .int .u8 115, .int .u8 101, .int .u8 115, .int .u8 115, .int .u8 105, .int .u8 111, .int .u8 110] 5 (16, 17))) (.slice (some ⟨w.heap.size, 0, none⟩) 16 16) sessionHead) := Lib.hid y1
  clear b1 y1 
  obtain ⟨w1, hw1⟩ : ∃ q, q = (w.alloc (.cells #[.int .u8 99, .int .u8 97, .int .u8 114, .int .u8 99, .int .u8 97, .int .u8 110, .int .u8 101, .int .u8 116, .int .u8 32, .int .u8 115, .int .u8 101, .int .u8 115, .int .u8 115, .int .u8 105, .int .u8 111, .int .u8 110] 5 (16, 17))) := ⟨_, rfl⟩
  have BL : Hid (Below w.heap.size w w1) := Lib.hid (by rw [hw1]; exact B1.out)
  have RL : Hid (RowIn w1 w.heap.size (.slice (some ⟨w.heap.size, 0, none⟩) 16 16) (infoL (l.take 0))) := Lib.hid (by rw [HZ.out, hw1]; exact .inr ⟨_, rfl, Nat.le_refl _, by simp, L1.out⟩)
  go_wp2_with fail
  try rw [← hw1]
  clear rL
  clear L1
  clear hw1
  go_loopw [3, 10] (fun u i wr => ∃ k : Nat, k ≤ n ∧ i = .int .i64 (k : Int) ∧ RowIn wr w.heap.size u (infoL (l.take k)) ∧ Below w.heap.size w wr) (fun _ i _ => n - (intOf i).toNat)
  case atStart => exact ⟨0, Nat.zero_le _, rfl, RL.out, BL.out⟩
  case round =>
    obtain ⟨k, hk, rfl, ho, hb⟩ := hrel
    have O0 := Lib.hid ho
    have B0 := Lib.hid hb
    clear ho hb RL BL
    by_cases hlt : k < n
    · have dk : decide ((k : Int) < (n : Int)) = true := by simp; omega
      have jk : (k : Int) < (n : Int) := by omega
      obtain ⟨x, hx⟩ : ∃ x, l[k]? = some x := ⟨_, List.getElem?_eq_getElem (by rw [← HL.out]; exact hlt)⟩
      obtain ⟨g, off, rfl, hgl, hc⟩ := HA.out.row (entC_len l) (by decide) (map_at hx)
      have HC := Lib.hid (fun j u (hj : x.enc[j]? = some u) => (B0.out.cell (p := ⟨g, off + k * 6 + j, none⟩) hgl).trans (hc j u hj))
      have HT : Hid (infoL (l.take (k + 1)) = infoL (l.take k) ++ textE x) := Lib.hid (infoL_take hx)
      obtain ⟨hx1, hx2⟩ := HX.out x (List.mem_of_getElem? hx)
      have CB := fun w => Lib.hid (enBytes_any x hx1 hx2 w)
      have HE : Hid (textE x = txt (bytesE x)) := Lib.hid (by rw [textE, cutE_small (by omega)])
      have HY := Lib.hid (show (bytesE x).length ≤ 9223372036854775807 by rw [bytesE_length]; omega)
      have r4 : IntKind.i64.wrap ((k : Int) + 1) = ((k + 1 : Nat) : Int) := by have := HM.out; have := HL.out; rw [IntWalk.i64_in _ (by omega)]; omega
      clear hc hx hx1 hx2
      go_wp2_with (first | (with_reducible refine wpList_load_rec Ent.isRec rfl _ rfl g (off + k * 6) (by with_unfolding_all exact rfl) x.enc (Ent.len _) HC.out ?_) | (refine wpList_alloc_row rfl 24 rfl Ent.zero.enc.toArray Ent.zero_is ?_))
      intro w1 b1 x1 z1
      obtain ⟨gE, hgE⟩ : ∃ q, q = wr.heap.size := ⟨_, rfl⟩
      rw [← hgE] at x1 ⊢
      have X1 : Hid (Ent.At w1 gE Ent.zero) := Lib.hid x1
      have D1 := Lib.hid b1
      have NW := Lib.hid (show wr.heap.size ≤ gE from Nat.le_of_eq hgE.symm)
      clear b1 x1 z1 HC hgE
      go_wp2_with (with_reducible refine wpList_store_whole rfl 24 _ _ rfl gE x.enc.toArray (by with_unfolding_all exact rfl) (by with_unfolding_all exact rfl) _ _ X1.out (Ent.size _) rfl (Ent.one _) ?_)
      intro w2 g2 x2 z2
      have X2 : Hid (Ent.At w2 gE x) := Lib.hid x2
      have D2 : Hid (Below wr.heap.size wr w2) := Lib.hid (D1.out.grown g2 D1.out.size (fun k hk => by injection hk with hk; have := NW.out; omega))
      clear g2 x2 z2 X1 D1
      go_wp2_with (with_reducible refine wpList_load_whole Ent.isRec rfl _ rfl gE (by with_unfolding_all exact rfl) _ _ (Ent.len _) X2.out ?_)
      refine (CB w2).out.mono ?_
      rintro y w3 ⟨v3, rfl, y3, b3⟩
      have D3 := Lib.hid (D2.out.trans (b3.mono D2.out.size))
      have B3 := Lib.hid (B0.out.trans (D3.out.mono B0.out.size))
      have O3 := Lib.hid (O0.out.below D3.out)
      have r3 := conv_bytes y3
      have CT := put_text_in w.heap.size _ (infoL (l.take k)) ⟨(bytesE x).toArray⟩ w3 HY.out O3.out B3.out.size (HS.out k)
      rw [enc_text, ← HE.out, ← HT.out] at CT
      have CT := Lib.hid CT
      clear y3 b3 D2 X2
      go_wp2_with fail
      refine CT.out.mono ?_
      rintro y w4 ⟨v4, rfl, o4, m4⟩
      have B4 : Hid (Below w.heap.size w w4) := Lib.hid (B3.out.trans (m4.keeps.below (fun i hi => (O3.out.lt i hi).1) B3.out.size))
      have O4 : Hid (RowIn w4 w.heap.size v4 (infoL (l.take (k + 1)))) := Lib.hid (.inl o4)
      clear o4 m4 CT r3 O3 B3 D3
      go_wp2
      exact ⟨⟨k + 1, by omega, by go_num, O4.out, B4.out⟩, by simp [intOf]; omega⟩
    · obtain rfl : k = n := by omega
      have dk : decide ((k : Int) < (k : Int)) = false := by simp
      rw [HW.out] at O0
      have Y0 : Hid (BytesAt wr u3 (infoL l)) := Lib.hid (by
        rcases O0.out with h | ⟨g, e, -, -, y⟩
        · exact BytesAt.of_own h
        · exact y)
      go_wp2
      go_ret
      exact ⟨_, rfl, Y0.out, B0.out⟩

set_option maxHeartbeats 1000000 in
theorem keMine_any (role : Int) (t b : List UInt8) (w : World) :
    Calls Tryd.prog 11 #[.int .i64 role, .string ⟨t.toArray⟩, .string ⟨b.toArray⟩] w fun e w' => e = .returned (.tuple #[.string ⟨(mineA role t b).toArray⟩, .string ⟨(mineB role t b).toArray⟩]) ∧ Below w.heap.size w w' := by
  by_cases h1 : role = 1
  · subst h1
    have EA : Hid (mineA 1 t b = t) := Lib.hid (by simp [mineA])
    have EB : Hid (mineB 1 t b = b) := Lib.hid (by simp [mineB])
    go_enter Tryd.func11, Tryd.ntmps11
    go_wp2
    try go_step3
    try go_wp2
    try rw [Exit.noGoto_ret]
    go_ret2
    exact ⟨by rw [EA.out, EB.out]; rfl, Below.refl _ _⟩
  · by_cases h2 : role = 2
    · subst h2
      have EA : Hid (mineA 2 t b = b) := Lib.hid (by simp [mineA])
      have EB : Hid (mineB 2 t b = t) := Lib.hid (by simp [mineB])
      clear h1
      go_enter Tryd.func11, Tryd.ntmps11
      go_wp2
      try go_step3
      try go_wp2
      try rw [Exit.noGoto_ret]
      go_ret2
      exact ⟨by rw [EA.out, EB.out]; rfl, Below.refl _ _⟩
    · have EA : Hid (mineA role t b = []) := Lib.hid (by rw [mineA, if_neg h1, if_neg h2])
      have EB : Hid (mineB role t b = []) := Lib.hid (by rw [mineB, if_neg h1, if_neg h2])
      have d1 : (role == 1) = false := by simpa using h1
      have d2 : (role == 2) = false := by simpa using h2
      clear h1 h2
      go_enter Tryd.func11, Tryd.ntmps11
      go_wp2
      try go_step3
      try go_wp2
      try rw [Exit.noGoto_ret]
      go_ret2
      exact ⟨by rw [EA.out, EB.out]; rfl, Below.refl _ _⟩
end Go.Proofs.YtieidemmajdpmaaDoor
