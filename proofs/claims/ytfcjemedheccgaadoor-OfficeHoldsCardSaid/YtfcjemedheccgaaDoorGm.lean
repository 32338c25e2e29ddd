/- An office in memory: the landed one, and the document's. Names as rows of strings. -/
import Derived.Test.YtfcjemedheccgaaDoorGe
import Derived.Test.YtfcjemedheccgaaDoorGj
import Derived.Test.YtfcjemedheccgaaDoorGf
import Derived.Test.YtfcjemedheccgaaDoorGl
namespace Go.Proofs.YtfcjemedheccgaaDoor
set_option maxRecDepth 100000
open Go.RowKit

def nmC (l : List (List UInt8)) : List (List Value) := l.map fun n => [.string ⟨n.toArray⟩]
theorem nmC_length (l : List (List UInt8)) : (nmC l).length = l.length := by simp [nmC]
theorem nmC_one (l : List (List UInt8)) : ∀ c ∈ nmC l, c.length = 1 ∧ ∀ u ∈ c, u.oneCell' = true := by
  intro c hc
  obtain ⟨n, -, rfl⟩ := List.mem_map.1 hc
  exact ⟨rfl, fun u hu => by rw [List.mem_singleton] at hu; subst hu; rfl⟩
theorem nmC_append (a b : List (List UInt8)) : nmC (a ++ b) = nmC a ++ nmC b := by simp [nmC]
theorem entC_one (l : List Ent) : ∀ c ∈ l.map Ent.enc, c.length = 6 ∧ ∀ u ∈ c, u.oneCell' = true := by
  intro c hc
  obtain ⟨x, -, rfl⟩ := List.mem_map.1 hc
  exact ⟨x.len, x.fits.one⟩
theorem entZ : ElemZ Tryd.prog 40 48 6 := Ent.isElem.z
theorem str_info : (Tryd.prog.info? 9).map (fun i => (i.zero, i.size, decide (i.bytes ≤ 8000))) = some (some (.string ⟨#[]⟩), 1, true) := by kernel_rfl
theorem str_info' : ∃ i, Tryd.prog.info? 9 = some i ∧ i.zero = some (.string ⟨#[]⟩) ∧ i.size = 1 ∧ i.bytes ≤ 8000 := by
  have h := str_info
  cases hi : Tryd.prog.info? 9 with
  | none => rw [hi] at h; cases h
  | some i =>
    rw [hi] at h
    simp only [Option.map_some, Option.some.injEq, Prod.mk.injEq, decide_eq_true_eq] at h
    exact ⟨i, rfl, h.1, h.2.1, h.2.2⟩
theorem strZ : ElemZ Tryd.prog 42 9 1 := by
  obtain ⟨i, h1, h2, h3, h4⟩ := str_info'
  exact ⟨Tryd.underlying42, by decide, i, _, h1, h2, h3, rfl, h4⟩
theorem build_str (n : List UInt8) : filled 1 1 (Value.string ⟨#[]⟩).cells [(0, .string ⟨n.toArray⟩)] = some #[.string ⟨n.toArray⟩] := by kernel_rfl
theorem wpList_one_str {ops : Array Oper} {rest : List Oper} {o : Oper} {a : Act} {w : World} {Q : Exit → Act → World → Prop} (hgd : o.guard = none) (y : Operand) (ho : o.op = .buildSlice 42 1 #[(0, y)]) (n : List UInt8) (hy : a.eval y = .string ⟨n.toArray⟩)
    (h : ∀ w', Below w.heap.size w w' → RowsAt w' (.slice (some ⟨w.heap.size, 0, none⟩) 1 1) 1 (nmC [n]) → w'.heap.size = w.heap.size + 1 → wpList Tryd.prog ops Q rest (a.put o.dst (.slice (some ⟨w.heap.size, 0, none⟩) 1 1)) w') : wpList Tryd.prog ops Q (o :: rest) a w := by
  obtain ⟨i, h1, h2, h3, -⟩ := str_info'
  exact wpList_buildSlice hgd Tryd.underlying42 h1 h2 1 (by rw [h3]; decide) (by rw [h3]; decide) _ ho #[(0, .string ⟨n.toArray⟩)] (by simp [hy]) #[.string ⟨n.toArray⟩] (by rw [h3]; exact build_str n) fun w' b q z => h w' b (rows_one (k := 1) (cs := [.string ⟨n.toArray⟩]) q (Nat.le_refl _)) z
/-- A slice of one entry, of the call's own. -/
theorem wpList_one_own {ops : Array Oper} {rest : List Oper} {o : Oper} {a : Act} {w : World} {Q : Exit → Act → World → Prop} (hgd : o.guard = none) (y : Operand) (ho : o.op = .buildSlice 40 1 #[(0, y)]) (x : Ent) (hy : a.eval y = x.val)
    (h : ∀ w', Below w.heap.size w w' → OwnRows w' w.heap.size 48 6 (.slice (some ⟨w.heap.size, 0, none⟩) 1 1) [x.enc] → w'.heap.size = w.heap.size + 1 → wpList Tryd.prog ops Q rest (a.put o.dst (.slice (some ⟨w.heap.size, 0, none⟩) 1 1)) w') : wpList Tryd.prog ops Q (o :: rest) a w := by
  obtain ⟨i, h1, h2, h3⟩ := Ent.info
  exact wpList_buildSlice hgd Tryd.underlying40 h1 h2 1 (by rw [h3]; decide) (by rw [h3]; decide) _ ho #[(0, x.val)] (by simp [hy]) x.enc.toArray (by rw [h3]; exact Ent.build_one x) fun w' b q z => h w' b ⟨⟨by simp [x.len], .inr ⟨w.heap.size, 1, _, rfl, Nat.le_refl _, q, Nat.le_refl _, by decide, by simp [x.len], by simp; exact List.take_of_length_le (Nat.le_of_eq x.len)⟩⟩, fun c hc => by rw [List.mem_singleton] at hc; rw [hc]; exact x.len⟩ z

/-! ### the state -/
def Foot (g : Nat) (v u : Value) : Nat → Prop := fun i => i = g ∨ v.ownBlock = some i ∨ u.ownBlock = some i
/-- The cells of a struct that has a state's parts: issued v, revoked u. -/
abbrev Lay := Value → Value → OS → List Value
def offC : Lay := fun v u s => [u, .string ⟨s.seed.toArray⟩, .int .i64 s.len, .int .i64 s.idx, v]
def rffC : Lay := fun v u s => [.string ⟨s.seed.toArray⟩, .int .i64 s.len, .int .i64 s.idx, v, u]
structure ObjAt (C : Lay) (T : TypeId) (w : World) (g : Nat) (v u : Value) (s : OS) : Prop where
  whole : Whole w g T (C v u s).toArray
  rows : OwnRows w 0 48 6 v (s.issued.map Ent.enc)
  names : OwnRows w 0 9 1 u (nmC s.gone)
  gv : v.ownBlock ≠ some g
  gu : u.ownBlock ≠ some g
  apt : Apt v u
abbrev OffAt := ObjAt offC 63
abbrev RffAt := ObjAt rffC 44
section
variable {C : Lay} {T : TypeId} {w w' : World} {g : Nat} {v u : Value} {s : OS} {F : Nat → Prop}
theorem ObjAt.lt (h : ObjAt C T w g v u s) : ∀ i, Foot g v u i → i < w.heap.size := by
  rintro i (rfl | k | k)
  · exact h.whole.lt
  · exact (h.rows.lt _ k).2
  · exact (h.names.lt _ k).2
theorem ObjAt.keeps (h : ObjAt C T w g v u s) (k : Keeps F w w') (hn : ∀ i, Foot g v u i → ¬ F i) : ObjAt C T w' g v u s :=
  ⟨h.whole.keeps k (hn g (.inl rfl)), h.rows.keeps k (fun i e => hn i (.inr (.inl e))), h.names.keeps k (fun i e => hn i (.inr (.inr e))), h.gv, h.gu, h.apt⟩
theorem ObjAt.below (h : ObjAt C T w g v u s) (b : Below w.heap.size w w') : ObjAt C T w' g v u s := h.keeps (F := fun _ => False) (Keeps.of_below b) (fun _ _ => id)
theorem ObjAt.below' {B : Nat} (h : ObjAt C T w g v u s) (b : Below B w w') (hB : ∀ i, Foot g v u i → i < B) : ObjAt C T w' g v u s :=
  h.keeps (F := fun i => B ≤ i) ⟨b.os, b.tape, b.output, b.size, fun i _ hi => b.block i (by omega)⟩ (fun i hi => by have := hB i hi; omega)
/-- Other parts are written into its own block. -/
theorem ObjAt.turned {s' : OS} {v' u' : Value} (h : ObjAt C T w g v u s) (q : w.grownBy w' (some g)) (x : Whole w' g T (C v' u' s').toArray) (hv : v' = v) (hu : u' = u) (h1 : s'.issued = s.issued) (h2 : s'.gone = s.gone) : ObjAt C T w' g v' u' s' := by
  subst hv hu
  refine ⟨x, ?_, ?_, h.gv, h.gu, h.apt⟩
  · rw [h1]; exact h.rows.far q h.gv
  · rw [h2]; exact h.names.far q h.gu
/-- More was issued. -/
theorem ObjAt.issued_more {v' : Value} {l : List Ent} {w1 : World} (h : ObjAt C T w g v u s) (hg : w.grownBy w1 v.ownBlock) (ho : OwnRows w1 0 48 6 v' ((s.issued ++ l).map Ent.enc)) (hat : v'.ownBlock = v.ownBlock ∨ v'.ownBlock = some w.heap.size)
    (q : w1.grownBy w' (some g)) (x : Whole w' g T (C v' u (s.more l)).toArray) : ObjAt C T w' g v' u (s.more l) ∧ Moves (Foot g v u) (Foot g v' u) w w' := by
  have hgl := h.whole.lt
  have hg' : v'.ownBlock ≠ some g := by
    rcases hat with e | e
    · rw [e]; exact h.gv
    · rw [e]; intro k; injection k with k; omega
  have hn : OwnRows w1 0 9 1 u (nmC s.gone) := ⟨h.names.1.kept hg h.apt.far, h.names.2⟩
  refine ⟨⟨x, ho.far q hg', hn.far q h.gu, hg', h.gu, h.apt.next h.names.1 hat rfl⟩, ⟨?_, ?_⟩⟩
  · exact (Keeps.of_grown hg (fun k e => .inl (.inr (.inl e)))).trans (Keeps.of_grown q (fun k e => .inl (.inl (by injection e with e; exact e.symm))))
  · rintro i (rfl | k | k)
    · exact .inl (.inl rfl)
    · rcases hat with e | e
      · exact .inl (.inr (.inl (e ▸ k)))
      · rw [e] at k; injection k with k; exact .inr (by omega)
    · exact .inl (.inr (.inr k))
/-- One more was revoked. -/
theorem ObjAt.gone_more {u' : Value} {n : List UInt8} {w1 : World} (h : ObjAt C T w g v u s) (hg : w.grownBy w1 u.ownBlock) (ho : OwnRows w1 0 9 1 u' (nmC (s.gone ++ [n]))) (hat : u'.ownBlock = u.ownBlock ∨ u'.ownBlock = some w.heap.size)
    (q : w1.grownBy w' (some g)) (x : Whole w' g T (C v u' (s.mark n)).toArray) : ObjAt C T w' g v u' (s.mark n) ∧ Moves (Foot g v u) (Foot g v u') w w' := by
  have hgl := h.whole.lt
  have hg' : u'.ownBlock ≠ some g := by
    rcases hat with e | e
    · rw [e]; exact h.gu
    · rw [e]; intro k; injection k with k; omega
  have hn : OwnRows w1 0 48 6 v (s.issued.map Ent.enc) := ⟨h.rows.1.kept hg h.apt.turn.far, h.rows.2⟩
  refine ⟨⟨x, hn.far q h.gv, ho.far q hg', h.gv, hg', (h.apt.turn.next h.rows.1 hat rfl).turn⟩, ⟨?_, ?_⟩⟩
  · exact (Keeps.of_grown hg (fun k e => .inl (.inr (.inr e)))).trans (Keeps.of_grown q (fun k e => .inl (.inl (by injection e with e; exact e.symm))))
  · rintro i (rfl | k | k)
    · exact .inl (.inl rfl)
    · exact .inl (.inr (.inl k))
    · rcases hat with e | e
      · exact .inl (.inr (.inr (e ▸ k)))
      · rw [e] at k; injection k with k; exact .inr (by omega)
theorem ObjAt.at_ (h : ObjAt C T w g v u s) (i : Nat) : w.cell? ⟨g, i, none⟩ = (C v u s)[i]? := by rw [h.whole.at_]; simp
/-- A new one. -/
theorem ObjAt.new {seed : List UInt8} {len idx : Int} (x : Whole w g T (C (.slice none 0 0) (.slice none 0 0) ⟨seed, len, idx, [], []⟩).toArray) : ObjAt C T w g (.slice none 0 0) (.slice none 0 0) ⟨seed, len, idx, [], []⟩ :=
  ⟨x, OwnRows.nil _ _ _ _, OwnRows.nil _ _ _ _, by simp [Value.ownBlock], by simp [Value.ownBlock], .inl ⟨rfl, rfl⟩⟩
end

theorem OffAt.c0 {w : World} {g : Nat} {v u : Value} {s : OS} (h : OffAt w g v u s) : w.cell? ⟨g, 0, none⟩ = some u := h.at_ 0
theorem OffAt.c1 {w : World} {g : Nat} {v u : Value} {s : OS} (h : OffAt w g v u s) : w.cell? ⟨g, 1, none⟩ = some (.string ⟨s.seed.toArray⟩) := h.at_ 1
theorem OffAt.c2 {w : World} {g : Nat} {v u : Value} {s : OS} (h : OffAt w g v u s) : w.cell? ⟨g, 2, none⟩ = some (.int .i64 s.len) := h.at_ 2
theorem OffAt.c3 {w : World} {g : Nat} {v u : Value} {s : OS} (h : OffAt w g v u s) : w.cell? ⟨g, 3, none⟩ = some (.int .i64 s.idx) := h.at_ 3
theorem OffAt.c4 {w : World} {g : Nat} {v u : Value} {s : OS} (h : OffAt w g v u s) : w.cell? ⟨g, 4, none⟩ = some v := h.at_ 4
theorem RffAt.c0 {w : World} {g : Nat} {v u : Value} {s : OS} (h : RffAt w g v u s) : w.cell? ⟨g, 0, none⟩ = some (.string ⟨s.seed.toArray⟩) := h.at_ 0
theorem RffAt.c1 {w : World} {g : Nat} {v u : Value} {s : OS} (h : RffAt w g v u s) : w.cell? ⟨g, 1, none⟩ = some (.int .i64 s.len) := h.at_ 1
theorem RffAt.c2 {w : World} {g : Nat} {v u : Value} {s : OS} (h : RffAt w g v u s) : w.cell? ⟨g, 2, none⟩ = some (.int .i64 s.idx) := h.at_ 2
theorem RffAt.c3 {w : World} {g : Nat} {v u : Value} {s : OS} (h : RffAt w g v u s) : w.cell? ⟨g, 3, none⟩ = some v := h.at_ 3
theorem RffAt.c4 {w : World} {g : Nat} {v u : Value} {s : OS} (h : RffAt w g v u s) : w.cell? ⟨g, 4, none⟩ = some u := h.at_ 4

/-- Sizes. -/
structure OS.Ok (s : OS) (N : Nat) : Prop where
  seed : s.seed.length ≤ 4000
  len1 : 1 ≤ s.len
  len2 : s.len ≤ 64
  idx1 : 0 ≤ s.idx
  idx2 : s.idx ≤ s.len
  many : s.issued.length ≤ N
  gone : s.gone.length ≤ N
  ents : ∀ e ∈ s.issued, e.name.length ≤ 1000 ∧ e.id < 18446744073709551616
theorem OS.Ok.good {s : OS} {N : Nat} (h : s.Ok N) : ¬ keyBad s.len s.idx := by
  simp only [keyBad, not_or, Int.not_lt]
  exact ⟨h.len1, h.len2, h.idx1, h.idx2⟩
theorem OS.Ok.key {s : OS} {N : Nat} (h : s.Ok N) : s.key.length = 32 := key_len _ _ _ h.good
theorem OS.Ok.mono {s : OS} {N M : Nat} (h : s.Ok N) (hm : N ≤ M) : s.Ok M := ⟨h.seed, h.len1, h.len2, h.idx1, h.idx2, Nat.le_trans h.many hm, Nat.le_trans h.gone hm, h.ents⟩
theorem OS.Ok.more {s : OS} {N : Nat} (h : s.Ok N) {l : List Ent} (hl : ∀ e ∈ l, e.name.length ≤ 1000 ∧ e.id < 18446744073709551616) : (s.more l).Ok (N + l.length) :=
  ⟨h.seed, h.len1, h.len2, h.idx1, h.idx2, by show (s.issued ++ l).length ≤ _; rw [List.length_append]; have := h.many; omega, Nat.le_trans h.gone (Nat.le_add_right _ _), fun e he => (List.mem_append.1 he).elim (h.ents e) (hl e)⟩
theorem OS.Ok.next {s : OS} {N : Nat} (h : s.Ok N) (hn : s.idx ≠ s.len) : s.next.Ok N :=
  ⟨h.seed, h.len1, h.len2, by show 0 ≤ s.idx + 1; have := h.idx1; omega, by show s.idx + 1 ≤ s.len; have := h.idx2; omega, h.many, h.gone, h.ents⟩
theorem OS.Ok.mark {s : OS} {N : Nat} (h : s.Ok N) (n : List UInt8) : (s.mark n).Ok (N + 1) :=
  ⟨h.seed, h.len1, h.len2, h.idx1, h.idx2, Nat.le_trans h.many (Nat.le_add_right _ _), by show (s.gone ++ [n]).length ≤ _; rw [List.length_append, List.length_singleton]; have := h.gone; omega, h.ents⟩
theorem OS.Ok.lat {s : OS} {N : Nat} (h : s.Ok N) : ∀ e ∈ latest s.gone s.issued, e.name.length ≤ 1000 ∧ e.id < 18446744073709551616 := fun e he => h.ents e (latest_from _ _ e he)
theorem OS.Ok.out {s : OS} {N : Nat} (h : s.Ok N) : ∀ e ∈ s.out, e.name.length ≤ 1000 ∧ e.id < 18446744073709551616 := fun e he => by
  obtain ⟨x, hx, rfl⟩ := List.mem_map.1 he
  exact h.lat x hx
theorem OS.out_length (s : OS) : s.out.length ≤ s.issued.length := by rw [OS.out, List.length_map]; exact latest_length _ _
theorem OS.Ok.adv {s : OS} {N : Nat} (h : s.Ok N) : (advS s).Ok (2 * N) := by
  rw [advS]
  split
  · exact h.mono (by omega)
  · next hn => exact ((h.next hn).more h.out).mono (by have := s.out_length; have := h.many; omega)
theorem OS.Ok.rev {s : OS} {N : Nat} (h : s.Ok N) (n : List UInt8) : (revS s n).Ok (2 * (N + 1)) := by
  rw [revS]
  split
  · exact (h.mark n).adv
  · exact h.mono (by omega)
theorem OS.Ok.iss {s : OS} {N : Nat} (h : s.Ok N) (n : List UInt8) (id : Nat) (f u : Int) (hn : n.length ≤ 1000) (hi : id < 18446744073709551616) : (issS s n id f u).Ok (N + 1) := by
  rw [issS]
  split
  · exact h.more (l := [_]) (fun e he => by rw [List.mem_singleton] at he; subst he; exact ⟨hn, hi⟩)
  · exact h.mono (by omega)

/-- Not where the table of digest's constants lies. -/
def Away (F : Nat → Prop) : Prop := ¬ F 0
theorem Tab.keeps {F : Nat → Prop} {w w' : World} (T : Tab w) (k : Keeps F w w') (hn : Away F) : Tab w' := fun i hi => (World.cell?_of_block (w := w) (a := ⟨0, i, none⟩) (k.block 0 T.pos hn)).trans (T i hi)
theorem Moves.away {F F' : Nat → Prop} {w w' : World} (m : Moves F F' w w') (T : Tab w) (hn : Away F) : Away F' := fun k => (m.foot _ k).elim hn (fun q => by have := T.pos; omega)
theorem Tab.moves {F F' : Nat → Prop} {w w' : World} (T : Tab w) (m : Moves F F' w w') (hn : Away F) : Tab w' := T.keeps m.keeps hn
theorem OwnRows.spot {w : World} {base k : Nat} {e : TypeId} {v : Value} {L : List (List Value)} (h : OwnRows w base e k v L) (hl : L ≠ []) :
    ∃ g cap, v = .slice (some ⟨g, 0, none⟩) L.length cap ∧ base ≤ g ∧ g < w.heap.size ∧ ∀ i c, L[i]? = some c → ∀ j u, c[j]? = some u → w.cell? ⟨g, i * k + j, none⟩ = some u := by
  have hlt := h.lt
  have hr := h.rows
  rcases h.1.2 with ⟨-, h2⟩ | ⟨g, cap, cur, rfl, h2, h3, -⟩
  · exact absurd (List.length_eq_zero_iff.1 h2) hl
  · refine ⟨g, cap, rfl, h2, (hlt g rfl).2, fun i c hi j u hj => ?_⟩
    obtain ⟨A, cap', e', -, hc⟩ := hr
    injection e' with e1 e2 e3
    obtain ⟨ad, ha, hcell⟩ := hc hl
    rw [← e1] at ha
    injection ha with ha
    subst ha
    have q := hcell i c hi j u hj
    have hadd : (⟨g, 0, none⟩ : Addr).add (i * k + j) = ⟨g, i * k + j, none⟩ := by unfold Addr.add; split <;> simp_all
    rwa [hadd] at q

/-- One result: a gate in a block. -/
theorem results_gate {fn : Func} {p : Tmp} (h : fn.results = #[.cell p 37]) (tmps : Array Value) (w : World) (g : Nat) (i : Int) (k : List UInt8)
    (hp : tmps.getD p undef = .pointer (some ⟨g, 0, none⟩)) (hg : GateAt w g i k) : (results fn tmps).run Tryd.prog w = .ok (gateV i k) w := by
  have hl := load_gate hg
  have hp' : tmps[p]?.getD undef = .pointer (some ⟨g, 0, none⟩) := by simpa using hp
  simp [results, h, hp', asAddr, hl]
end Go.Proofs.YtfcjemedheccgaaDoor
