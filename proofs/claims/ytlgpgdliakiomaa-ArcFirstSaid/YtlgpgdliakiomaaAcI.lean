/- All that is asked of package arc. -/
import Derived.Test.YtlgpgdliakiomaaAcE
import Derived.Test.YtlgpgdliakiomaaAcF
namespace Go.Proofs.Ytlgpgdliakiomaa
open Go.RowKit

theorem arc_is : ArcIs where
  dist a b w ha hb := (dist_all a b w).mono fun _ _ h => ⟨by rw [h.1, distW_dist _ _ ha hb], by rw [h.2]; exact Below.refl _ _⟩
  within a x b w ha hx hb := (within_any a x b ha hx hb w).mono fun _ _ h => ⟨h.1, by rw [h.2]; exact Below.refl _ _⟩
  inside a x b w ha hx hb := (inside_any a x b ha hx hb w).mono fun _ _ h => ⟨h.1, by rw [h.2]; exact Below.refl _ _⟩
  start id bit w _ hb := (start_any id bit hb w).mono fun _ _ h => ⟨h.1, by rw [h.2]; exact Below.refl _ _⟩
  nearest A n cap key ids w hk hids hn h := nearest_any A n cap key ids w hk hids hn h
  order A n cap a ids w ha hids hn h := order_all A n cap a ids w ha hids hn h
end Go.Proofs.Ytlgpgdliakiomaa
