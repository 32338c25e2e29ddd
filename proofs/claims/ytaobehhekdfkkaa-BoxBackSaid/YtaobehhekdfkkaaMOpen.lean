/- An array by value that came in: of numbers of one kind. -/
import Derived.Test.YtaobehhekdfkkaaGb
namespace Go.Proofs.Ytaobehhekdfkkaa
open Go.RowKit Go.ChangeShapes Go.WideShapes Go.ChangeAt

theorem open_array {H : Type} {enc : TypeId × Value → H} {W : World} {b base n : Nat} {sp : Nat → Bool} {hd : Bool} {t e : TypeId} {k : IntKind} {v : Value} {d : DataW H} {p : List MemPlace}
    (ht : Try.prog.underlying t = some (.array n e)) (he : Try.prog.underlying e = some (.int k)) (hce : Try.prog.cellsOf e = 1) (hct : Try.prog.cellsOf t = n)
    (hv : Value.okWide Try.prog W .any base t v) (h : DataW.Trod enc Try.prog W b sp hd t v d p) : ∃ zs : List Int, zs.length = n ∧ v = .agg (zs.map (Value.int k)).toArray ∧ ∀ z ∈ zs, (Lit.int k z).wf = true := by
  simp only [Value.okWide, ht] at hv
  obtain ⟨cs, rfl, hsz, _⟩ := hv
  obtain ⟨fuel, hf⟩ := h
  obtain ⟨xs, m, rfl, hx, hlen, hxn, hel⟩ := DataW.trod_array ht hf
  have hat : ∀ i, i < n → ∃ z, cs[i]? = some (.int k z) ∧ (Lit.int k z).wf = true := fun i hi => by
    have q := hel i hi
    have hxi : xs[i]? = some xs[i] := List.getElem?_eq_getElem (by rw [hxn]; exact hi)
    rw [hxi, hce] at q
    obtain ⟨z, hc, _, hwf⟩ := DataW.trod_int he q
    refine ⟨z, ?_, hwf⟩
    have := congrArg (·[0]?) hc
    simpa [List.getElem?_take, List.getElem?_drop, Value.cells] using this
  have hcn : cs.size = n := by rw [hsz, hct]
  refine ⟨cs.toList.map intOf, by simp [hcn], ?_, ?_⟩
  · congr 1
    apply Array.ext_getElem?
    intro i
    by_cases hi : i < n
    · obtain ⟨z, hz, _⟩ := hat i hi
      simp [hz, intOf]
    · rw [Array.getElem?_eq_none (by omega), Array.getElem?_eq_none (by simp [hcn]; omega)]
  · intro z hz
    simp only [List.mem_map] at hz
    obtain ⟨u, hu, rfl⟩ := hz
    obtain ⟨i, hi, hiu⟩ := List.getElem_of_mem hu
    have hin : i < n := by simpa [hcn] using hi
    obtain ⟨z, hz, hwf⟩ := hat i hin
    have e : cs.toList[i]? = some (.int k z) := by simpa using hz
    rw [List.getElem?_eq_getElem hi, hiu] at e
    injection e with e
    subst e
    exact hwf
end Go.Proofs.Ytaobehhekdfkkaa
