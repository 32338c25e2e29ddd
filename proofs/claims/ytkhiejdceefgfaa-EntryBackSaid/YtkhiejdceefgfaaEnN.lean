/- The document's Find. -/
import Derived.Test.YtkhiejdceefgfaaEnO
import Derived.Deep.LoopGhost
namespace Go.Proofs.Ytkhiejdceefgfaa
open Go.RowKit

def findE (n : List UInt8) : List Ent → Nat → Int
  | [], _ => -1
  | e :: l, k => if e.name = n then (k : Int) else findE n l (k + 1)

set_option maxHeartbeats 1000000 in
theorem refFind_any (A : Option Addr) (m cap : Nat) (l : List Ent) (n : List UInt8) (w : World) (hm : m ≤ 1000000) (h : EntsAt w (.slice A m cap) l) :
    Calls Try.prog 20 #[.slice A m cap, .string ⟨n.toArray⟩] w fun e w' => e = .returned (.int .i64 (findE n l 0)) ∧ w' = w := by
  obtain ⟨hlen, -⟩ := h.size
  have H := Lib.hid h
  have HL := Lib.hid hlen
  obtain ⟨R, hR⟩ : ∃ R, R = findE n l 0 := ⟨_, rfl⟩
  have HR : Hid (findE n (l.drop 0) 0 = R) := Lib.hid (by rw [hR]; rfl)
  rw [← hR]
  clear h hlen hR
  go_enter Try.func20, Try.ntmps20
  go_wp2_with fail
  go_loop [5] (fun i => ∃ k : Nat, k ≤ m ∧ i = .int .i64 (k : Int) ∧ findE n (l.drop k) k = R) (fun i => m - (intOf i).toNat)
  case atStart => exact ⟨0, Nat.zero_le _, rfl, HR.out⟩
  case round =>
    obtain ⟨k, hk, rfl, hr⟩ := hrel
    have HK := Lib.hid hr
    clear hr HR
    by_cases hlt : k < m
    · have dk : decide ((k : Int) < (m : Int)) = true := by simp; omega
      obtain ⟨e, he⟩ : ∃ e, l[k]? = some e := ⟨_, List.getElem?_eq_getElem (by rw [← HL.out]; exact hlt)⟩
      have hne : l ≠ [] := by rintro rfl; simp at he
      obtain ⟨g, off, rfl, _, hc⟩ := H.out.spots hne
      have c : w.cell? ⟨g, off + k * 6, none⟩ = some (.string ⟨e.name.toArray⟩) := hc k e he 0 _ rfl
      have HD := Lib.hid (drop_at he)
      have jk : (k : Int) < (m : Int) := by omega
      have r4 : IntKind.i64.wrap ((k : Int) + 1) = ((k + 1 : Nat) : Int) := by rw [IntWalk.i64_in _ (by omega)]; omega
      clear hc he hne
      by_cases hn : e.name = n
      · have r : (e.name == n) = true := by simp [hn]
        have HV : Hid ((k : Int) = R) := Lib.hid (by have q := HK.out; rw [HD.out, findE, if_pos hn] at q; exact q)
        clear hn
        go_wp2
        go_ret
        exact ⟨by rw [← HV.out]; rfl, rfl⟩
      · have r : (e.name == n) = false := by simp [hn]
        have HV : Hid (findE n (l.drop (k + 1)) (k + 1) = R) := Lib.hid (by have q := HK.out; rw [HD.out, findE, if_neg hn] at q; exact q)
        clear hn
        go_wp2
        exact ⟨⟨k + 1, by omega, by go_num, HV.out⟩, by simp [intOf]; omega⟩
    · obtain rfl : k = m := by omega
      have dk : decide ((k : Int) < (k : Int)) = false := by simp
      have HV : Hid ((-1 : Int) = R) := Lib.hid (by have q := HK.out; rw [List.drop_eq_nil_of_le (by rw [← HL.out]; exact Nat.le_refl _)] at q; exact q)
      go_wp2
      go_ret
      exact ⟨by rw [← HV.out]; rfl, rfl⟩
end Go.Proofs.Ytkhiejdceefgfaa
