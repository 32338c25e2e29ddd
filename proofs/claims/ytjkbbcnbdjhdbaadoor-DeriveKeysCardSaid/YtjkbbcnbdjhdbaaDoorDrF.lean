/- Expand and Key of package derive, and the document's Expand, for every number of bytes. -/
import Derived.Test.YtjkbbcnbdjhdbaaDoorDrE
import Derived.Test.YtjkbbcnbdjhdbaaDoorDrB
namespace Go.Proofs.YtjkbbcnbdjhdbaaDoor
open Go.RowKit

def exA (key info : List UInt8) (z : Int) : List UInt8 := if z < 0 ∨ 8160 < z then [] else expandL key info z.toNat
def exC (z : Int) : Int := if z < 0 ∨ 8160 < z then 2 else 0

theorem expand_all (v0 v1 : Value) (key info : List UInt8) (z : Int) (w : World) (h0 : BytesAt w v0 key) (h1 : BytesAt w v1 info) (hk : key.length ≤ 5000) (hi : info.length ≤ 4800) (T : Tab w) :
    Calls Tryd.prog 6 #[v0, v1, .int .i64 z] w fun e w' => ∃ v', e = .returned (.tuple #[v', .int .i64 (exC z)]) ∧ BytesAt w' v' (exA key info z) ∧ Below w.heap.size w w' := by
  by_cases hz : z < 0 ∨ 8160 < z
  · rw [exA, exC, if_pos hz, if_pos hz]
    exact (expand_bad v0 v1 z hz w).mono fun _ _ ⟨he, hb⟩ => ⟨_, he, BytesAt.nil _, hb⟩
  · rw [exA, exC, if_neg hz, if_neg hz]
    obtain ⟨n, rfl⟩ := Int.eq_ofNat_of_zero_le (show 0 ≤ z by omega)
    exact expand_any v0 v1 key info n w h0 h1 hk hi (by omega) T

theorem refExpand_all (v0 v1 : Value) (key info : List UInt8) (z : Int) (w : World) (h0 : BytesAt w v0 key) (h1 : BytesAt w v1 info) (hk : key.length ≤ 5000) (hi : info.length ≤ 4800) :
    Calls Tryd.prog 7 #[v0, v1, .int .i64 z] w fun e w' => ∃ v', e = .returned (.tuple #[v', .int .i64 (exC z)]) ∧ BytesAt w' v' (exA key info z) ∧ Below w.heap.size w w' := by
  by_cases hz : z < 0 ∨ 8160 < z
  · rw [exA, exC, if_pos hz, if_pos hz]
    exact (refExpand_bad v0 v1 z hz w).mono fun _ _ ⟨he, hb⟩ => ⟨_, he, BytesAt.nil _, hb⟩
  · rw [exA, exC, if_neg hz, if_neg hz]
    obtain ⟨n, rfl⟩ := Int.eq_ofNat_of_zero_le (show 0 ≤ z by omega)
    exact refExpand_any v0 v1 key info n w h0 h1 hk hi (by omega)

theorem derKey_all (v0 v1 v2 : Value) (salt secret info : List UInt8) (z : Int) (w : World) (h0 : BytesAt w v0 salt) (h1 : BytesAt w v1 secret) (h2 : BytesAt w v2 info) (hk : salt.length ≤ 5000) (hm : secret.length ≤ 4900) (hi : info.length ≤ 4800) (T : Tab w) :
    Calls Tryd.prog 8 #[v0, v1, v2, .int .i64 z] w fun e w' => ∃ v', e = .returned (.tuple #[v', .int .i64 (exC z)]) ∧ BytesAt w' v' (exA (extractL salt secret) info z) ∧ Below w.heap.size w w' := by
  by_cases hz : z < 0 ∨ 8160 < z
  · rw [exA, exC, if_pos hz, if_pos hz]
    exact (derKey_bad v0 v1 v2 salt secret z hz w h0 h1 hk hm T).mono fun _ _ ⟨he, hb⟩ => ⟨_, he, BytesAt.nil _, hb⟩
  · rw [exA, exC, if_neg hz, if_neg hz]
    obtain ⟨n, rfl⟩ := Int.eq_ofNat_of_zero_le (show 0 ≤ z by omega)
    exact derKey_any v0 v1 v2 salt secret info n w h0 h1 h2 hk hm hi (by omega) T
end Go.Proofs.YtjkbbcnbdjhdbaaDoor
