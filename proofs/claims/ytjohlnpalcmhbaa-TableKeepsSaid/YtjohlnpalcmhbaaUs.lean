/- Slices of numbers of 64 bits, as natural numbers: what they hold, append, literals, an argument's. (The words of XGenA's BytesAt, for uint64.) -/
import Derived.Test.YtjohlnpalcmhbaaGenS
import Derived.Test.YtjohlnpalcmhbaaGenT
import Derived.IntWalk
namespace Go.Proofs.Ytjohlnpalcmhbaa
set_option maxRecDepth 100000
open Go.RowKit Go.ChangeShapes Go.WideShapes Go.ChangeAt

theorem u64_info : (Try.prog.info? 23).map (fun i => (i.zero, i.size, i.bytes)) = some (some (.int .u64 0), 1, 8) := by kernel_rfl
/-- Numbers as cells. -/
def us (l : List Nat) : List Value := l.map fun (c : Nat) => Value.int .u64 (c : Int)
theorem us_append (a b : List Nat) : us (a ++ b) = us a ++ us b := by simp [us]
theorem us_length (l : List Nat) : (us l).length = l.length := by simp [us]
theorem us_one (l : List Nat) : ∀ u ∈ us l, u.oneCell' = true := by
  intro u hu
  simp only [us, List.mem_map] at hu
  obtain ⟨c, _, rfl⟩ := hu
  rfl
/-- The slice v is just these numbers. -/
def UsAt (w : World) (v : Value) (l : List Nat) : Prop :=
  ∃ A cap, v = .slice A l.length cap ∧ l.length ≤ cap ∧ (l ≠ [] → ∃ ad : Addr, A = some ad ∧ ∀ (j c : Nat), l[j]? = some c → w.cell? (ad.add j) = some (.int .u64 (c : Int)))

theorem UsAt.of_own {w : World} {base : Nat} {v : Value} {l : List Nat} (h : w.ownsRow base 23 1 v l.length (us l)) : UsAt w v l := by
  have hc := @World.ownsRow.cells _ _ _ _ _ _ _ h
  rcases h.2 with ⟨rfl, hn⟩ | ⟨g, cap, cur, rfl, _, _, hcap, _⟩
  · rw [List.length_eq_zero_iff] at hn
    subst hn
    exact ⟨none, 0, rfl, Nat.le_refl _, fun h => absurd rfl h⟩
  · refine ⟨_, cap, rfl, hcap, fun _ => ⟨_, rfl, fun j c hj => ?_⟩⟩
    exact hc (g := g) rfl j _ (by simp [us, hj])


theorem UsAt.keep {w w' : World} {v : Value} {l : List Nat} (h : UsAt w v l) (hk : l ≠ [] → ∀ g, g < w.heap.size → v.ownBlock = some g → w'.heap[g]? = w.heap[g]?) : UsAt w' v l := by
  obtain ⟨A, cap, rfl, hcap, hc⟩ := h
  refine ⟨A, cap, rfl, hcap, fun hl => ?_⟩
  obtain ⟨ad, rfl, hcell⟩ := hc hl
  refine ⟨ad, rfl, fun j c hj => ?_⟩
  have h1 := hcell j c hj
  have hlt := World.block_lt_of_cell? w _ h1
  rw [add_block] at hlt
  rw [← h1]
  exact World.cell?_of_block (by rw [add_block]; exact hk hl ad.block hlt rfl)
theorem UsAt.below {w w' : World} {v : Value} {l : List Nat} (h : UsAt w v l) (hb : Below w.heap.size w w') : UsAt w' v l := h.keep fun _ g hg _ => hb.block g hg
theorem UsAt.lt {w : World} {A : Option Addr} {n cap : Nat} {l : List Nat} (h : UsAt w (.slice A n cap) l) (hl : l ≠ []) : ∃ ad, A = some ad ∧ ad.block < w.heap.size := by
  obtain ⟨A', cap', e, _, hc⟩ := h
  injection e with e1 e2 e3
  subst e1
  obtain ⟨ad, rfl, hcell⟩ := hc hl
  refine ⟨ad, rfl, ?_⟩
  have h1 := hcell 0 (l.head hl) (by rw [← List.head?_eq_getElem?]; exact List.head?_eq_some_head hl)
  have hlt := World.block_lt_of_cell? w _ h1
  rwa [add_block] at hlt


theorem run_append_us (w : World) (base : Nat) (ty : TypeId) (v : Value) (n : Nat) (xs : List Value) (hown : w.ownsRow base 23 1 v n xs) (src : Value) (l : List Nat) (hs : UsAt w src l)
    (hlen : n + l.length ≤ 10000000) (hbase : base ≤ w.heap.size) :
    ∃ v' w', (Builtin.append_ #[32, 32] ty #[v, src]).run Try.prog w = .ok v' w' ∧ w'.ownsRow base 23 1 v' (n + l.length) (xs ++ us l) ∧ w.grownBy w' v.ownBlock := by
  obtain ⟨i0, hi0, hz0, hz1, hz2⟩ := info_parts u64_info
  obtain ⟨A, cap, rfl, -, hc⟩ := hs
  cases A with
  | none =>
    have hl : l = [] := by
      by_cases e : l = []
      · exact e
      · obtain ⟨ad, h, _⟩ := hc e
        cases h
    subst hl
    exact ⟨v, w, run_append_nothing w base _ ty _ i0 1 Try.underlying32 hi0 v n xs hown cap, by simpa [us] using hown, World.grownBy.refl w _⟩
  | some ad =>
    obtain ⟨v', w', hr, ho, hg, _⟩ := run_append_own (P := Try.prog) w base 32 ty 23 i0 (.int .u64 0) 1 8 Try.underlying32 hi0 hz0 hz1 hz2 rfl (by decide) v n xs hown ad l.length cap (us l) (by rw [us_length, Nat.mul_one]) (fun j u hu => by
      simp only [us, List.getElem?_map, Option.map_eq_some_iff] at hu
      obtain ⟨c, hcj, rfl⟩ := hu
      obtain ⟨ad', h, hcell⟩ := hc (by rintro rfl; simp at hcj)
      injection h with h
      subst h
      exact hcell j c hcj) (us_one l) (by simp only [maxLen]; omega) (by omega) hbase
    exact ⟨v', w', hr, ho, hg⟩

theorem wp_append_us {w : World} {o : Oper} {a : Act} {K : Act → World → Prop} {Q : Exit → Act → World → Prop} (s x : Operand)
    (ho : o.op = .call { callee := .builtin .append, args := #[s, x], argTypes := #[32, 32] })
    (base : Nat) (v : Value) (n : Nat) (xs : List Value) (hv : a.eval s = v) (hown : w.ownsRow base 23 1 v n xs) (src : Value) (l : List Nat) (hx : a.eval x = src) (hs : UsAt w src l)
    (hlen : n + l.length ≤ 10000000) (hbase : base ≤ w.heap.size)
    (h : ∀ v' w', w'.ownsRow base 23 1 v' (n + l.length) (xs ++ us l) → w.grownBy w' v.ownBlock → K (a.put o.dst v') w') : o.wp Try.prog a w K Q := by
  obtain ⟨v', w', hr, h2, h3⟩ := run_append_us w base o.type v n xs hown src l hs hlen hbase
  unfold Oper.wp execOp
  simp only [ho, resolve, invoke, builtin, Sem.run_bind, Sem.run_pure, Result.andThen_ok, List.map_toArray, List.map_cons, List.map_nil, hv, hx, hr]
  exact h v' w' h2 h3

theorem wpList_append_us {w : World} {ops : Array Oper} {rest : List Oper} {o : Oper} {a : Act} {Q : Exit → Act → World → Prop} (hgd : o.guard = none) (s x : Operand)
    (ho : o.op = .call { callee := .builtin .append, args := #[s, x], argTypes := #[32, 32] })
    (base : Nat) (v : Value) (n : Nat) (xs : List Value) (hv : a.eval s = v) (hown : w.ownsRow base 23 1 v n xs) (src : Value) (l : List Nat) (hx : a.eval x = src) (hs : UsAt w src l)
    (hlen : n + l.length ≤ 10000000) (hbase : base ≤ w.heap.size)
    (h : ∀ v' w', w'.ownsRow base 23 1 v' (n + l.length) (xs ++ us l) → w.grownBy w' v.ownBlock → wpList Try.prog ops Q rest (a.put o.dst v') w') : wpList Try.prog ops Q (o :: rest) a w :=
  wpList_plain hgd fun _ hK => wp_append_us s x ho base v n xs hv hown src l hx hs hlen hbase fun v' w' h2 h3 => hK _ _ (h v' w' h2 h3)


theorem UsAt.spots {w : World} {A : Option Addr} {n cap : Nat} {l : List Nat} (h : UsAt w (.slice A n cap) l) (hl : l ≠ []) :
    ∃ b off, A = some ⟨b, off, none⟩ ∧ b < w.heap.size ∧ ∀ (j c : Nat), l[j]? = some c → w.cell? ⟨b, off + j, none⟩ = some (.int .u64 (c : Int)) := by
  obtain ⟨ad, rfl, hlt⟩ := h.lt hl
  obtain ⟨A', cap', e, _, hc⟩ := h
  injection e with e1 e2 e3
  subst e1
  obtain ⟨ad', e', hcell⟩ := hc hl
  injection e' with e'
  subst e'
  have h1 := hcell 0 (l.head hl) (by rw [← List.head?_eq_getElem?]; exact List.head?_eq_some_head hl)
  obtain ⟨b, off, spot⟩ := ad
  have hspot : spot = none := by simpa [Addr.add] using World.cell?_spot h1
  subst hspot
  refine ⟨b, off, rfl, hlt, fun j c hj => ?_⟩
  have ha : (⟨b, off, none⟩ : Addr).add j = ⟨b, off + j, none⟩ := by unfold Addr.add; split <;> simp_all
  rw [← ha]
  exact hcell j c hj
theorem UsAt.size {w : World} {A : Option Addr} {n cap : Nat} {l : List Nat} (h : UsAt w (.slice A n cap) l) : n = l.length ∧ n ≤ cap := by
  obtain ⟨A', cap', e, hn, _⟩ := h
  injection e with e1 e2 e3
  subst e2 e3
  exact ⟨rfl, hn⟩
/-- The first of them. -/
theorem UsAt.first {w : World} {A : Option Addr} {n cap : Nat} {l : List Nat} (h : UsAt w (.slice A n cap) l) (m : Nat) (hm : m ≤ n) : UsAt w (.slice A m cap) (l.take m) := by
  obtain ⟨e, hn⟩ := h.size
  subst e
  obtain ⟨A', cap', e, _, hc⟩ := h
  injection e with e1 e2 e3
  subst e1
  have hlen : (l.take m).length = m := by simp; omega
  refine ⟨A, cap, by rw [hlen], by omega, fun hl => ?_⟩
  obtain ⟨ad, rfl, hcell⟩ := hc (by rintro rfl; simp at hl)
  refine ⟨ad, rfl, fun j c hj => hcell j c ?_⟩
  rw [List.getElem?_take] at hj
  split at hj
  · exact hj
  · cases hj
theorem UsAt.nil (w : World) : UsAt w (.slice none 0 0) [] := ⟨none, 0, rfl, Nat.le_refl _, fun h => absurd rfl h⟩
/-- A literal's. -/
theorem UsAt.lit (w : World) (l : List Nat) (cs : Array Value) (hc : cs = (us l).toArray) : UsAt (w.alloc (.cells cs 23)) (.slice (some ⟨w.heap.size, 0, none⟩) l.length l.length) l := by
  subst hc
  refine ⟨_, _, rfl, Nat.le_refl _, fun _ => ⟨_, rfl, fun j c hj => ?_⟩⟩
  have ha : (⟨w.heap.size, 0, none⟩ : Addr).add j = ⟨w.heap.size, j, none⟩ := by unfold Addr.add; split <;> simp_all
  rw [ha, (Whole.new w 23 _).at_ j]
  simp [us, hj]

theorem UsAt.rest {w : World} {A : Option Addr} {n cap : Nat} {l : List Nat} (h : UsAt w (.slice A n cap) l) (m : Nat) (hm : m ≤ n) : UsAt w (.slice (if cap = m then A else A.map (·.add m)) (n - m) (cap - m)) (l.drop m) := by
  obtain ⟨hn, hcap⟩ := h.size
  refine ⟨_, cap - m, by rw [List.length_drop, ← hn], by rw [List.length_drop]; omega, fun hne => ?_⟩
  have hl : l ≠ [] := by rintro rfl; simp at hne
  obtain ⟨b, off, rfl, _, hc⟩ := h.spots hl
  have hd : ¬ cap = m := by
    intro e
    apply hne
    apply List.drop_eq_nil_of_le
    omega
  have ha' : (⟨b, off, none⟩ : Addr).add m = ⟨b, off + m, none⟩ := by unfold Addr.add; split <;> simp_all
  rw [if_neg hd, Option.map_some, ha']
  refine ⟨_, rfl, fun j c hj => ?_⟩
  have ha : (⟨b, off + m, none⟩ : Addr).add j = ⟨b, off + (m + j), none⟩ := by unfold Addr.add; split <;> simp_all [Nat.add_assoc]
  rw [ha]
  rw [List.getElem?_drop] at hj
  exact hc _ c hj

theorem open_us {H : Type} {enc : TypeId × Value → H} {W : World} {b : Nat} {sp : Nat → Bool} {hd : Bool} {a : Option Addr} {len cap : Nat} {d : DataW H} {p : List MemPlace}
    (h : DataW.Trod enc Try.prog W b sp hd 32 (.slice a len cap) d p) : ∃ l, UsAt W (.slice a len cap) l ∧ ∀ x ∈ l, x < 18446744073709551616 := by
  obtain ⟨fuel, hf⟩ := h
  rcases open_ints Try.underlying32 Try.underlying23 (by kernel_rfl) hf with ⟨hcs, _⟩ | ⟨x, l, c, zs, hcs, _, hl, hm, hz, _, hcell, hwz⟩
  · simp [Value.cells] at hcs
    obtain ⟨rfl, rfl, rfl⟩ := hcs
    exact ⟨[], ⟨none, 0, rfl, Nat.le_refl _, fun h => absurd rfl h⟩, fun x hx => by cases hx⟩
  · simp [Value.cells] at hcs
    obtain ⟨rfl, rfl, rfl⟩ := hcs
    have hlen : len ≤ zs.length := by rw [hz]; split <;> omega
    refine ⟨(zs.take len).map fun n => n.toNat, ⟨some x, cap, by simp [Nat.min_eq_left hlen], by simp; omega, fun _ => ⟨x, rfl, fun j c hj => ?_⟩⟩, fun y hy => ?_⟩
    · simp only [List.getElem?_map, Option.map_eq_some_iff, List.getElem?_take] at hj
      obtain ⟨n, hn, rfl⟩ := hj
      split at hn
      · have hjl : j < zs.length := (List.getElem?_eq_some_iff.1 hn).1
        have hmem : n ∈ zs := List.mem_of_getElem? hn
        have hb := bounds_u64 (hwz n hmem)
        rw [hcell j hjl]
        simp [List.getD, hn]
        omega
      · cases hn
    · simp only [List.mem_map] at hy
      obtain ⟨n, hn, rfl⟩ := hy
      have hb := bounds_u64 (hwz n (List.mem_of_mem_take hn))
      omega
end Go.Proofs.Ytjohlnpalcmhbaa
