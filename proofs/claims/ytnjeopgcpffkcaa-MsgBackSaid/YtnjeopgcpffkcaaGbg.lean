/- Messages: what is written is read, and what is read was written. Plain mathematics. -/
import Derived.Test.YtnjeopgcpffkcaaGm
namespace Go.Proofs.Ytnjeopgcpffkcaa
set_option maxRecDepth 100000
open Go.RowKit

theorem key_short {n : List UInt8} (h : keyB n = true) : n.length ≤ 24 := by
  simp only [keyB, Bool.and_eq_true, decide_eq_true_eq] at h
  exact h.1.2
theorem uN_nat {n : Nat} (h : n < 18446744073709551616) : uN (n : Int) = n := by rw [uN]; omega
theorem nine {f : Nat} (h : f < 9) : f = 0 ∨ f = 1 ∨ f = 2 ∨ f = 3 ∨ f = 4 ∨ f = 5 ∨ f = 6 ∨ f = 7 ∨ f = 8 := by omega

/-! ### what is written is read -/
theorem flag_back (b : Bool) (r : List UInt8) : truthB ⟨flagL b ++ r, 0⟩ = b ∧ truthX ⟨flagL b ++ r, 0⟩ = false ∧ rawS ⟨flagL b ++ r, 0⟩ 1 = ⟨r, 0⟩ := by
  obtain ⟨h1, h2⟩ := num_put 1 (if b then 1 else 0) r (by cases b <;> decide)
  refine ⟨?_, ?_, h2⟩
  · rw [truthB, flagL, h1]; cases b <;> rfl
  · rw [truthX, flagL, h1]; cases b <;> rfl
theorem bytesE_short {e : Ent} (h : entR e = true) : (bytesE e).length ≤ 128 := by
  obtain ⟨p1, p2, -⟩ := entR_parts h
  have := name_short p1
  rw [bytesE, List.length_append, bodyL_length]
  omega
theorem ents_put (l : List Ent) (r : List UInt8) : (∀ e ∈ l, entR e = true) → (∀ e ∈ l, e.id < 18446744073709551616) → ∀ (x : Bool) (acc : List Ent), entsT l.length ⟨entsL l ++ r, 0⟩ x acc = (⟨r, 0⟩, x, acc ++ l) := by
  induction l with
  | nil => intro _ _ x acc; simp [entsT, entsL]
  | cons e l ih =>
    intro he hi x acc
    have e1 : entsL (e :: l) ++ r = encS ⟨(bytesE e).toArray⟩ ++ (entsL l ++ r) := by simp [entsL]
    have hs := bytesE_short (he e (by simp))
    obtain ⟨a1, b1⟩ := text_put (bytesE e) (entsL l ++ r) 128 hs (by omega)
    obtain ⟨r1, r2⟩ := read_back e (he e (by simp)) (hi e (by simp))
    rw [List.length_cons, entsT, e1, a1, b1, readE_back e (he e (by simp)) (hi e (by simp)), r1, ih (fun a h => he a (by simp [h])) (fun a h => hi a (by simp [h]))]
    simp
theorem item_put (i : Item) (h : itemB i = true) (r : List UInt8) : item1 ⟨itemL i ++ r, 0⟩ = i ∧ itemX ⟨itemL i ++ r, 0⟩ = false ∧ itemS ⟨itemL i ++ r, 0⟩ = ⟨r, 0⟩ := by
  obtain ⟨k, tx, v, g⟩ := i
  simp only [itemB, Bool.and_eq_true, decide_eq_true_eq] at h
  obtain ⟨⟨⟨h1, h2⟩, h3⟩, h4⟩ := h
  have hk := key_short h1
  have hv := uN_small (i := v) (by omega) h4
  have e1 : itemL ⟨k, tx, v, g⟩ ++ r = encS ⟨k.toArray⟩ ++ (encS ⟨tx.toArray⟩ ++ (be 4 (uN v) ++ (flagL g ++ r))) := by simp [itemL]
  obtain ⟨a1, b1⟩ := text_put k (encS ⟨tx.toArray⟩ ++ (be 4 (uN v) ++ (flagL g ++ r))) 24 hk (by omega)
  obtain ⟨a2, b2⟩ := text_put tx (be 4 (uN v) ++ (flagL g ++ r)) 32 h2 (by omega)
  obtain ⟨a3, b3⟩ := num_put 4 (uN v) (flagL g ++ r) (by omega)
  obtain ⟨a4, c4, b4⟩ := flag_back g r
  rw [e1]
  refine ⟨?_, ?_, ?_⟩
  · simp only [item1, a1, b1, a2, b2, a3, b3, a4, hv]
  · simp only [itemX, b1, b2, b3, c4]
  · simp only [itemS, b1, b2, b3, b4]
theorem items_put (l : List Item) (r : List UInt8) : (∀ i ∈ l, itemB i = true) → ∀ (x : Bool) (acc : List Item), itemsT l.length ⟨itemsL l ++ r, 0⟩ x acc = (⟨r, 0⟩, x, acc ++ l) := by
  induction l with
  | nil => intro _ x acc; simp [itemsT, itemsL]
  | cons i l ih =>
    intro he x acc
    have e1 : itemsL (i :: l) ++ r = itemL i ++ (itemsL l ++ r) := by simp [itemsL]
    obtain ⟨a1, b1, c1⟩ := item_put i (he i (by simp)) (itemsL l ++ r)
    rw [List.length_cons, itemsT, e1, a1, b1, c1, ih (fun a h => he a (by simp [h]))]
    simp
structure Fine (m : Mg) : Prop where
  e1 : 0 ≤ m.error
  e2 : m.error ≤ 99
  id : m.id < 18446744073709551616
  v1 : 0 ≤ m.ver
  v2 : m.ver ≤ 1073741824
  key : m.key.length ≤ 24
  val : m.val.length ≤ 32
  many : m.es.length ≤ 8
  items : m.its.length ≤ 16
  es : ∀ e ∈ m.es, entR e = true
  ids : ∀ e ∈ m.es, e.id < 18446744073709551616
  its : ∀ i ∈ m.its, itemB i = true
theorem RightM.fine {m : Mg} (h : RightM m) (ho : m.Ok) : Fine m := by
  refine ⟨h.e1, h.e2, ho.id, h.v1, h.v2, ?_, h.val, h.many, h.items, h.es, ho.es, h.its⟩
  by_cases hk : inK m.kind 5 = true
  · exact key_short (h.key hk)
  · have hb := h.bare
    have e : m.key = [] := by
      rw [hb]
      simp only [bareM]
      rw [if_neg hk]
    rw [e]
    decide
theorem take_put (m : Mg) (h : Fine m) (t : Mg) (bad big : Bool) (r : List UInt8) (f : Nat) (hf : f < 9) : takeF ⟨⟨putF m f ++ r, 0⟩, t, bad, big⟩ f = ⟨⟨r, 0⟩, keepM t m f, bad, big⟩ := by
  have he := uN_small h.e1 (by have := h.e2; omega)
  have hv := uN_small h.v1 h.v2
  rcases nine hf with rfl | rfl | rfl | rfl | rfl | rfl | rfl | rfl | rfl
  · obtain ⟨a, b⟩ := num_put 2 (uN m.error) r (by have := h.e2; omega)
    simp only [takeF, putF, keepM, a, b, he]
  · obtain ⟨a, c, b⟩ := flag_back m.has r
    simp only [takeF, putF, keepM, a, b, c, Bool.or_false]
  · obtain ⟨a, c, b⟩ := flag_back m.gone r
    simp only [takeF, putF, keepM, a, b, c, Bool.or_false]
  · obtain ⟨a, b⟩ := num_put 8 m.id r (by have := h.id; omega)
    simp only [takeF, putF, keepM, a, b]
  · obtain ⟨a, b⟩ := num_put 4 (uN m.ver) r (by have := h.v2; omega)
    simp only [takeF, putF, keepM, a, b, hv]
  · obtain ⟨a, b⟩ := text_put m.key r 24 h.key (by have := h.key; omega)
    simp only [takeF, putF, keepM, a, b]
  · obtain ⟨a, b⟩ := text_put m.val r 32 h.val (by have := h.val; omega)
    simp only [takeF, putF, keepM, a, b]
  · obtain ⟨a, b⟩ := num_put 1 m.es.length (entsL m.es ++ r) (by have := h.many; omega)
    have c := ents_put m.es r h.es h.ids bad []
    have d : ¬ 8 < m.es.length := by have := h.many; omega
    simp only [takeF, putF, keepM, List.append_assoc, manyN, manyX, a, b, if_neg d, decide_eq_false d, c, Bool.or_false, List.nil_append]
  · obtain ⟨a, b⟩ := num_put 1 m.its.length (itemsL m.its ++ r) (by have := h.items; omega)
    have c := items_put m.its r h.its bad []
    have d : ¬ 16 < m.its.length := by have := h.items; omega
    simp only [takeF, putF, keepM, List.append_assoc, manyN, manyX, a, b, if_neg d, decide_eq_false d, c, Bool.or_false, List.nil_append]
theorem takeT_put (m : Mg) (h : Fine m) (l : List Nat) : (∀ f ∈ l, f < 9) → ∀ (t : Mg) (r : List UInt8), takeT ⟨⟨l.flatMap (putF m) ++ r, 0⟩, t, false, false⟩ l = ⟨⟨r, 0⟩, l.foldl (fun t f => keepM t m f) t, false, false⟩ := by
  induction l with
  | nil => intro _ t r; simp [takeT]
  | cons f l ih =>
    intro hl t r
    have e1 : (f :: l).flatMap (putF m) ++ r = putF m f ++ (l.flatMap (putF m) ++ r) := by simp
    have q := ih (fun g hg => hl g (by simp [hg])) (keepM t m f) r
    rw [takeT] at q
    rw [takeT, List.foldl_cons, e1, take_put m h t false false _ f (hl f (by simp)), q, List.foldl_cons]
theorem be1 (c : UInt8) : be 1 c.toNat = [c] := by
  have h := be_ofBe [c]
  have e : ofBe [c] = c.toNat := by simp [ofBe]
  rwa [e] at h
theorem takeM_put {m : Mg} (h : RightM m) (ho : m.Ok) : takeM (putB m) = (m, 0) := by
  obtain ⟨c, hc⟩ : ∃ c : UInt8, (c.toNat : Int) = m.kind := by
    refine ⟨UInt8.ofNat m.kind.toNat, ?_⟩
    have h1 := h.k1
    have h2 := h.k2
    have e : (UInt8.ofNat m.kind.toNat).toNat = m.kind.toNat := by
      rw [UInt8.toNat_ofNat']
      omega
    rw [e]
    omega
  have hr := uN_small h.r1 h.r2
  have hu : uN m.kind = c.toNat := by rw [← hc]; exact uN_nat (by have := c.toNat_lt; omega)
  have e1 : putB m = c :: (be 4 (uN m.rid) ++ ((fldK m.kind).flatMap (putF m) ++ [])) := by
    rw [putB, hu, be1]
    simp
  have hk : knownK (c.toNat : Int) = true := by
    rw [hc]
    have h1 := h.k1
    have h2 := h.k2
    simp [knownK, h1, h2]
  obtain ⟨a, b⟩ := num_put 4 (uN m.rid) ((fldK m.kind).flatMap (putF m) ++ []) (by have := h.r2; omega)
  have e2 : take0 c (be 4 (uN m.rid) ++ ((fldK m.kind).flatMap (putF m) ++ [])) = ⟨⟨(fldK m.kind).flatMap (putF m) ++ [], 0⟩, headM m.kind m.rid, false, false⟩ := by
    rw [take0, a, b, hc, hr]
  rw [e1]
  show (if knownK (c.toNat : Int) = false then (Mg.zero, (13 : Int)) else takeE (takeT (take0 c (be 4 (uN m.rid) ++ ((fldK m.kind).flatMap (putF m) ++ []))) (fldK (c.toNat : Int)))) = (m, 0)
  rw [if_neg (by rw [hk]; decide), e2, hc, takeT_put m (h.fine ho) _ (fun f hf => fld_lt hf), bare_fold, ← h.bare]
  have hR : rightM m = true := by rw [rightM, decide_eq_true h]
  simp [takeE, endE, hR]

/-! ### what is read was written -/
theorem flag_was {s : RS} (h : (rawS s 1).e = 0) (hx : truthX s = false) : s.e = 0 ∧ s.l = flagL (truthB s) ++ (rawS s 1).l := by
  obtain ⟨h0, h1, h2⟩ := num_back h
  refine ⟨h0, ?_⟩
  have q : numO s 1 ≤ 1 := by simpa [truthX] using hx
  have e : flagL (truthB s) = be 1 (numO s 1) := by
    by_cases k : numO s 1 = 1
    · simp [flagL, truthB, k]
    · have k0 : numO s 1 = 0 := by omega
      simp [flagL, truthB, k0]
  rw [e]
  exact h2
theorem ents_was : ∀ (n : Nat) (r : RS) (x : Bool) (acc : List Ent), (entsT n r x acc).1.e = 0 → (entsT n r x acc).2.1 = false →
    r.e = 0 ∧ x = false ∧ ∃ d : List Ent, (entsT n r x acc).2.2 = acc ++ d ∧ d.length = n ∧ r.l = entsL d ++ (entsT n r x acc).1.l ∧ ∀ e ∈ d, e.id < 18446744073709551616 := by
  intro n
  induction n with
  | zero => intro r x acc h1 h2; exact ⟨h1, h2, [], by simp [entsT], rfl, by simp [entsT, entsL], by simp⟩
  | succ n ih =>
    intro r x acc h1 h2
    simp only [entsT] at h1 h2 ⊢
    obtain ⟨a, b, d, e1, e2, e3, e4⟩ := ih _ _ _ h1 h2
    obtain ⟨z, l1, l2, l3⟩ := text_back a
    obtain ⟨b1, b2⟩ := Bool.or_eq_false_iff.1 b
    have b3 : readX (textO r 128) = 0 := by simpa using b2
    obtain ⟨q1, q2, q3⟩ := read_was _ b3
    have q4 : readE (textO r 128) = entP (textO r 128) := by rw [readE, if_pos b3]
    have q5 : entsL (readE (textO r 128) :: d) = encS ⟨(textO r 128).toArray⟩ ++ entsL d := by rw [q4]; simp [entsL, q2]
    refine ⟨z, b1, readE (textO r 128) :: d, by rw [e1]; simp, by simp [e2], ?_, ?_⟩
    · rw [l3, e3, q5, List.append_assoc]
    · intro e he
      rcases List.mem_cons.1 he with rfl | he
      · rw [q4]; exact q3
      · exact e4 e he
theorem item_was {s : RS} (h : (itemS s).e = 0) (hx : itemX s = false) : s.e = 0 ∧ s.l = itemL (item1 s) ++ (itemS s).l := by
  obtain ⟨z4, l4⟩ := flag_was h hx
  obtain ⟨z3, n3, l3⟩ := num_back z4
  obtain ⟨z2, -, -, l2⟩ := text_back z3
  obtain ⟨z1, -, -, l1⟩ := text_back z2
  refine ⟨z1, ?_⟩
  have e : uN ((numO (textS (textS s 24) 32) 4 : Nat) : Int) = numO (textS (textS s 24) 32) 4 := uN_nat (by omega)
  have e1 : itemL (item1 s) = encS ⟨(textO s 24).toArray⟩ ++ encS ⟨(textO (textS s 24) 32).toArray⟩ ++ be 4 (numO (textS (textS s 24) 32) 4) ++ flagL (truthB (rawS (textS (textS s 24) 32) 4)) := by
    rw [← e]
    rfl
  rw [e1, l1, l2, l3, l4]
  simp only [List.append_assoc]
  rfl
theorem items_was : ∀ (n : Nat) (r : RS) (x : Bool) (acc : List Item), (itemsT n r x acc).1.e = 0 → (itemsT n r x acc).2.1 = false →
    r.e = 0 ∧ x = false ∧ ∃ d : List Item, (itemsT n r x acc).2.2 = acc ++ d ∧ d.length = n ∧ r.l = itemsL d ++ (itemsT n r x acc).1.l := by
  intro n
  induction n with
  | zero => intro r x acc h1 h2; exact ⟨h1, h2, [], by simp [itemsT], rfl, by simp [itemsT, itemsL]⟩
  | succ n ih =>
    intro r x acc h1 h2
    simp only [itemsT] at h1 h2 ⊢
    obtain ⟨a, b, d, e1, e2, e3⟩ := ih _ _ _ h1 h2
    obtain ⟨b1, b2⟩ := Bool.or_eq_false_iff.1 b
    obtain ⟨z, l1⟩ := item_was a b2
    refine ⟨z, b1, item1 r :: d, by rw [e1]; simp, by simp [e2], ?_⟩
    have q5 : itemsL (item1 r :: d) = itemL (item1 r) ++ itemsL d := by simp [itemsL]
    rw [l1, e3, q5, List.append_assoc]
theorem take_was (t : Tk) (f : Nat) (hf : f < 9) (he : (takeF t f).r.e = 0) (hb : (takeF t f).bad = false) (hg : (takeF t f).big = false) :
    t.r.e = 0 ∧ t.bad = false ∧ t.big = false ∧ t.r.l = putF (takeF t f).m f ++ (takeF t f).r.l ∧ (t.m.Ok → (takeF t f).m.Ok) := by
  rcases nine hf with rfl | rfl | rfl | rfl | rfl | rfl | rfl | rfl | rfl
  · simp only [takeF] at he hb hg
    obtain ⟨z, n, l⟩ := num_back he
    refine ⟨z, hb, hg, ?_, fun o => ⟨o.id, o.es⟩⟩
    simp only [takeF, putF]
    rw [uN_nat (by omega)]
    exact l
  · simp only [takeF] at he hb hg
    obtain ⟨b1, b2⟩ := Bool.or_eq_false_iff.1 hb
    obtain ⟨z, l⟩ := flag_was he b2
    exact ⟨z, b1, hg, l, fun o => ⟨o.id, o.es⟩⟩
  · simp only [takeF] at he hb hg
    obtain ⟨b1, b2⟩ := Bool.or_eq_false_iff.1 hb
    obtain ⟨z, l⟩ := flag_was he b2
    exact ⟨z, b1, hg, l, fun o => ⟨o.id, o.es⟩⟩
  · simp only [takeF] at he hb hg
    obtain ⟨z, n, l⟩ := num_back he
    exact ⟨z, hb, hg, l, fun o => ⟨by simp only [takeF]; omega, o.es⟩⟩
  · simp only [takeF] at he hb hg
    obtain ⟨z, n, l⟩ := num_back he
    refine ⟨z, hb, hg, ?_, fun o => ⟨o.id, o.es⟩⟩
    simp only [takeF, putF]
    rw [uN_nat (by omega)]
    exact l
  · simp only [takeF] at he hb hg
    obtain ⟨z, -, -, l⟩ := text_back he
    exact ⟨z, hb, hg, l, fun o => ⟨o.id, o.es⟩⟩
  · simp only [takeF] at he hb hg
    obtain ⟨z, -, -, l⟩ := text_back he
    exact ⟨z, hb, hg, l, fun o => ⟨o.id, o.es⟩⟩
  · simp only [takeF] at he hb hg
    obtain ⟨g1, g2⟩ := Bool.or_eq_false_iff.1 hg
    have k : ¬ 8 < numO t.r 1 := of_decide_eq_false g2
    obtain ⟨a, b, d, e1, e2, e3, e4⟩ := ents_was _ _ _ _ he hb
    obtain ⟨z, n, l⟩ := num_back a
    have e5 : d.length = numO t.r 1 := by rw [e2, manyN, if_neg k]
    refine ⟨z, b, g1, ?_, fun o => ⟨o.id, ?_⟩⟩
    · simp only [takeF, putF]
      rw [e1, List.nil_append, e5, List.append_assoc, ← e3]
      exact l
    · simp only [takeF]
      rw [e1, List.nil_append]
      exact e4
  · simp only [takeF] at he hb hg
    obtain ⟨g1, g2⟩ := Bool.or_eq_false_iff.1 hg
    have k : ¬ 16 < numO t.r 1 := of_decide_eq_false g2
    obtain ⟨a, b, d, e1, e2, e3⟩ := items_was _ _ _ _ he hb
    obtain ⟨z, n, l⟩ := num_back a
    have e5 : d.length = numO t.r 1 := by rw [e2, manyN, if_neg k]
    refine ⟨z, b, g1, ?_, fun o => ⟨o.id, o.es⟩⟩
    simp only [takeF, putF]
    rw [e1, List.nil_append, e5, List.append_assoc, ← e3]
    exact l
theorem putF_out (m : Mg) {g : Nat} (h : ¬ g < 9) : putF m g = [] := by
  unfold putF
  split <;> first | (exfalso; omega) | rfl
theorem take_far (t : Tk) (f g : Nat) (hf : f < 9) (h : g ≠ f) : putF (takeF t f).m g = putF t.m g := by
  by_cases hg : g < 9
  · rcases nine hf with rfl | rfl | rfl | rfl | rfl | rfl | rfl | rfl | rfl <;> rcases nine hg with rfl | rfl | rfl | rfl | rfl | rfl | rfl | rfl | rfl <;> first | rfl | exact absurd rfl h
  · rw [putF_out _ hg, putF_out _ hg]
theorem take_head (t : Tk) (f : Nat) (hf : f < 9) : (takeF t f).m.kind = t.m.kind ∧ (takeF t f).m.rid = t.m.rid := by
  rcases nine hf with rfl | rfl | rfl | rfl | rfl | rfl | rfl | rfl | rfl <;> exact ⟨rfl, rfl⟩
theorem takeT_was (l : List Nat) : ∀ t : Tk, l.Nodup → (∀ f ∈ l, f < 9) → (takeT t l).r.e = 0 → (takeT t l).bad = false → (takeT t l).big = false →
    t.r.e = 0 ∧ t.bad = false ∧ t.big = false ∧ t.r.l = l.flatMap (putF (takeT t l).m) ++ (takeT t l).r.l ∧ (t.m.Ok → (takeT t l).m.Ok) ∧ (∀ g, g ∉ l → putF (takeT t l).m g = putF t.m g) ∧ (takeT t l).m.kind = t.m.kind ∧ (takeT t l).m.rid = t.m.rid := by
  induction l with
  | nil => intro t _ _ h1 h2 h3; exact ⟨h1, h2, h3, by simp [takeT], fun o => o, fun _ _ => rfl, rfl, rfl⟩
  | cons f l ih =>
    intro t hn hf h1 h2 h3
    have e : takeT t (f :: l) = takeT (takeF t f) l := rfl
    rw [e] at h1 h2 h3 ⊢
    obtain ⟨hn1, hn2⟩ := List.nodup_cons.1 hn
    have f9 := hf f (by simp)
    obtain ⟨a, b, c, d, o, far, k, r⟩ := ih (takeF t f) hn2 (fun g hg => hf g (by simp [hg])) h1 h2 h3
    obtain ⟨a', b', c', d', o'⟩ := take_was t f f9 a b c
    refine ⟨a', b', c', ?_, fun q => o (o' q), fun g hg => ?_, k.trans (take_head t f f9).1, r.trans (take_head t f f9).2⟩
    · rw [List.flatMap_cons, far f hn1, List.append_assoc, ← d]
      exact d'
    · have h4 : g ≠ f := fun e => hg (by simp [e])
      have h5 : g ∉ l := fun e => hg (by simp [e])
      rw [far g h5, take_far t f g f9 h4]
theorem fld_nodup (k : Int) : (fldK k).Nodup := by
  rcases kinds k with rfl | rfl | rfl | rfl | rfl | rfl | rfl | rfl | rfl | rfl | rfl | rfl | rfl | rfl | rfl | rfl | hk
  all_goals first | (rw [fld_out hk]; exact List.nodup_nil) | decide
theorem takeE_was (t : Tk) (h : (takeE t).2 = 0) : t.big = false ∧ endE t.r = 0 ∧ t.bad = false ∧ RightM t.m ∧ takeE t = (t.m, 0) := by
  rw [takeE] at h ⊢
  by_cases h1 : t.big = true
  · rw [if_pos h1] at h; exact absurd h (by decide)
  · rw [if_neg h1] at h ⊢
    by_cases h2 : endE t.r ≠ 0
    · rw [if_pos h2] at h; exact absurd h h2
    · rw [if_neg h2] at h ⊢
      by_cases h3 : t.bad = true ∨ rightM t.m = false
      · rw [if_pos h3] at h; exact absurd h (by decide)
      · rw [if_neg h3]
        refine ⟨by simpa using h1, by simpa using h2, ?_, ?_, rfl⟩
        · cases hb : t.bad with
          | false => rfl
          | true => exact absurd (.inl hb) h3
        · by_cases hr : RightM t.m
          · exact hr
          · exact absurd (.inr (by rw [rightM, decide_eq_false hr])) h3
theorem takeM_was (b : List UInt8) (h : (takeM b).2 = 0) : RightM (takeM b).1 ∧ putB (takeM b).1 = b ∧ (takeM b).1.Ok := by
  cases b with
  | nil => exact absurd h (by decide)
  | cons c r =>
    have e0 : takeM (c :: r) = if knownK (c.toNat : Int) = false then (Mg.zero, (13 : Int)) else takeE (takeT (take0 c r) (fldK (c.toNat : Int))) := rfl
    rw [e0] at h ⊢
    by_cases hk : knownK (c.toNat : Int) = false
    · rw [if_pos hk] at h; exact absurd h (by show ¬ (13 : Int) = 0; decide)
    · rw [if_neg hk] at h ⊢
      obtain ⟨h1, h2, h3, h4, h5⟩ := takeE_was _ h
      rw [h5]
      obtain ⟨z, hl⟩ := end_back h2
      obtain ⟨a, b, c', d, o, -, k, rr⟩ := takeT_was (fldK (c.toNat : Int)) (take0 c r) (fld_nodup _) (fun f hf => fld_lt hf) z h3 h1
      obtain ⟨z0, n0, l0⟩ := num_back (s := ⟨r, 0⟩) (n := 4) a
      refine ⟨h4, ?_, o ⟨show (0 : Nat) < 18446744073709551616 by decide, fun e he => by cases he⟩⟩
      have k1 : (takeT (take0 c r) (fldK (c.toNat : Int))).m.kind = (c.toNat : Int) := k
      have r1 : (takeT (take0 c r) (fldK (c.toNat : Int))).m.rid = ((numO ⟨r, 0⟩ 4 : Nat) : Int) := rr
      rw [hl, List.append_nil] at d
      have d1 : (rawS ⟨r, 0⟩ 4).l = (fldK (c.toNat : Int)).flatMap (putF (takeT (take0 c r) (fldK (c.toNat : Int))).m) := d
      rw [putB]
      show be 1 (uN (takeT (take0 c r) (fldK (c.toNat : Int))).m.kind) ++ be 4 (uN (takeT (take0 c r) (fldK (c.toNat : Int))).m.rid) ++ (fldK (takeT (take0 c r) (fldK (c.toNat : Int))).m.kind).flatMap (putF (takeT (take0 c r) (fldK (c.toNat : Int))).m) = c :: r
      rw [k1, r1, ← d1, uN_nat (by have := c.toNat_lt; omega), uN_nat (by omega), be1]
      have l1 : r = be 4 (numO ⟨r, 0⟩ 4) ++ (rawS ⟨r, 0⟩ 4).l := l0
      show c :: (be 4 (numO ⟨r, 0⟩ 4) ++ (rawS ⟨r, 0⟩ 4).l) = c :: r
      rw [← l1]
theorem takeE_zero (t : Tk) (h : (takeE t).2 ≠ 0) : (takeE t).1 = Mg.zero := by
  rw [takeE] at h ⊢
  split
  · rfl
  · rename_i h1
    rw [if_neg h1] at h
    split
    · rfl
    · rename_i h2
      rw [if_neg h2] at h
      split
      · rfl
      · rename_i h3
        rw [if_neg h3] at h
        exact absurd rfl h
theorem takeM_zero (b : List UInt8) (h : (takeM b).2 ≠ 0) : (takeM b).1 = Mg.zero := by
  cases b with
  | nil => rfl
  | cons c r =>
    have e0 : takeM (c :: r) = if knownK (c.toNat : Int) = false then (Mg.zero, (13 : Int)) else takeE (takeT (take0 c r) (fldK (c.toNat : Int))) := rfl
    rw [e0] at h ⊢
    by_cases hk : knownK (c.toNat : Int) = false
    · rw [if_pos hk]
    · rw [if_neg hk] at h ⊢
      exact takeE_zero _ h
theorem takeM_len (b : List UInt8) : (takeM b).1.es.length ≤ 1000000 ∧ (takeM b).1.its.length ≤ 1000000 := by
  by_cases h : (takeM b).2 = 0
  · have q := (takeM_was b h).1
    exact ⟨Nat.le_trans q.many (by decide), Nat.le_trans q.items (by decide)⟩
  · rw [takeM_zero b h]
    decide
end Go.Proofs.Ytnjeopgcpffkcaa
