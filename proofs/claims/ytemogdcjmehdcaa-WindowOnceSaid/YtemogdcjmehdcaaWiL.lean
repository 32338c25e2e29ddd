/- WindowOnce's 'among': what it answers. -/
import Derived.Test.YtemogdcjmehdcaaWiA
import Derived.Test.YtemogdcjmehdcaaHs
namespace Go.Proofs.Ytemogdcjmehdcaa
set_option maxRecDepth 100000
open Go.RowKit

/-- Is a number in a list, when none that came ahead of it was 128 above it? -/
def amongFrom (n : Nat) : Nat → List Nat → Bool
  | _, [] => false
  | top, x :: r => if x = n ∧ top < n + 128 then true else amongFrom n (max top x) r
set_option maxRecDepth 100000 in
set_option maxHeartbeats 1000000 in
theorem among_any (A : Option Addr) (m cap n : Nat) (l : List Nat) (hl : ∀ x ∈ l, x < 65536) (hn : n < 65536) (hm : m ≤ 100000) (w : World) (h : HsAt w (.slice A m cap) l) :
    Calls Try.prog 13 #[.slice A m cap, .int .i64 (n : Int)] w fun e w' => e = .returned (.bool (amongFrom n 0 l)) ∧ w' = w := by
  obtain ⟨hlen, -⟩ := h.size
  have H := Lib.hid h
  have HL := Lib.hid hlen
  have HI := Lib.hid hl
  have HN := Lib.hid (And.intro hn hm)
  obtain ⟨R, hR⟩ : ∃ R, R = amongFrom n 0 l := ⟨_, rfl⟩
  have HR : Hid (amongFrom n 0 (l.drop 0) = R) := Lib.hid (by rw [hR]; rfl)
  rw [← hR]
  clear h hlen hR hl hn hm
  go_enter Try.func13, Try.ntmps13
  go_wp2_with fail
  go_loop [5, 10] (fun t i => ∃ k top : Nat, k ≤ m ∧ i = .int .i64 (k : Int) ∧ t = .int .i64 (top : Int) ∧ top < 65536 ∧ amongFrom n top (l.drop k) = R) (fun _ i => m - (intOf i).toNat)
  case atStart => exact ⟨0, 0, Nat.zero_le _, rfl, rfl, by decide, HR.out⟩
  case round =>
    obtain ⟨k, top, hk, rfl, rfl, htop, hr⟩ := hrel
    have HK := Lib.hid hr
    have HT := Lib.hid htop
    clear hr HR htop
    by_cases hlt : k < m
    · have dk : decide ((k : Int) < (m : Int)) = true := by simp; omega
      obtain ⟨e, he⟩ : ∃ e, l[k]? = some e := ⟨_, List.getElem?_eq_getElem (by rw [← HL.out]; exact hlt)⟩
      have hne : l ≠ [] := by rintro rfl; simp at he
      have hel : e < 65536 := HI.out e (List.mem_of_getElem? he)
      obtain ⟨g, off, rfl, _, hc⟩ := H.out.spots hne
      have c : w.cell? ⟨g, off + k, none⟩ = some (.int .u16 (e : Int)) := hc k e he
      have HD := Lib.hid (drop_at he)
      have jk : (k : Int) < (m : Int) := by omega
      have r1 : IntKind.i64.wrap (e : Int) = (e : Int) := by rw [IntWalk.i64_in _ (by omega)]
      have r2 : IntKind.i64.wrap ((top : Int) - (n : Int)) = (top : Int) - (n : Int) := by have := HT.out; have := HN.out; rw [IntWalk.i64_in _ (by omega)]
      have r4 : IntKind.i64.wrap ((k : Int) + 1) = ((k + 1 : Nat) : Int) := by have := HN.out; rw [IntWalk.i64_in _ (by omega)]; omega
      have HE := Lib.hid hel
      have HM : Hid ((if top < e then (e : Int) else (top : Int)) = ((max top e : Nat) : Int) ∧ max top e < 65536) := Lib.hid ⟨by split <;> omega, by have := HT.out; omega⟩
      clear hc he hne hel
      by_cases hn : e = n
      · have d1 : ((e : Int) == (n : Int)) = true := by simp [hn]
        have d1n : (e == n) = true := by simp [hn]
        by_cases h2 : top < n + 128
        · have d2 : decide ((top : Int) - (n : Int) < 128) = true := by simp; omega
          have HV : Hid (true = R) := Lib.hid (by have q := HK.out; rw [HD.out, amongFrom, if_pos ⟨hn, h2⟩] at q; exact q)
          clear hn h2
          go_wp2
          go_ret
          exact ⟨by rw [HV.out]; rfl, rfl⟩
        · have d2 : decide ((top : Int) - (n : Int) < 128) = false := by simp; omega
          have HV : Hid (amongFrom n (max top e) (l.drop (k + 1)) = R) := Lib.hid (by have q := HK.out; rw [HD.out, amongFrom, if_neg (fun h => h2 h.2)] at q; exact q)
          clear hn h2
          go_wp2
          exact ⟨⟨k + 1, max top e, by omega, by go_num, by first | rfl | (rw [HM.out.1]), HM.out.2, HV.out⟩, by simp [intOf]; omega⟩
      · have d1 : ((e : Int) == (n : Int)) = false := by simp; omega
        have d1n : (e == n) = false := by simp [hn]
        have HV : Hid (amongFrom n (max top e) (l.drop (k + 1)) = R) := Lib.hid (by have q := HK.out; rw [HD.out, amongFrom, if_neg (fun h => hn h.1)] at q; exact q)
        clear hn
        go_wp2
        exact ⟨⟨k + 1, max top e, by omega, by go_num, by first | rfl | (rw [HM.out.1]), HM.out.2, HV.out⟩, by simp [intOf]; omega⟩
    · obtain rfl : k = m := by omega
      have dk : decide ((k : Int) < (k : Int)) = false := by simp
      have HV : Hid (false = R) := Lib.hid (by have q := HK.out; rw [List.drop_eq_nil_of_le (by rw [← HL.out]; exact Nat.le_refl _)] at q; exact q)
      go_wp2
      go_ret
      exact ⟨by rw [← HV.out]; rfl, rfl⟩
end Go.Proofs.Ytemogdcjmehdcaa
