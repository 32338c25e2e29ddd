/- Plain mathematics of package cipher: Quarter, the 16 words, their rounds, a block, a message changed; the chapter's example. It speaks of no program. What the document's left, Quarter and word of layer 6 answer. Slices of words of 32 bits: what they hold, literals, append. -/
import Derived.Test.YtmnhpkdldeifgaaDoorGg
import Derived.Test.YtmnhpkdldeifgaaDoorGb
namespace Go.Proofs.YtmnhpkdldeifgaaDoor
set_option maxRecDepth 100000

/-- A word turned round to the left. -/
def rotl (x : UInt32) (k : Nat) : UInt32 := (x <<< UInt32.ofNat k) ||| (x >>> UInt32.ofNat (32 - k))
/-- Half of a Quarter: the first, then the second time. -/
def qHalf (j k : Nat) (p : UInt32 × UInt32 × UInt32 × UInt32) : UInt32 × UInt32 × UInt32 × UInt32 :=
  match p with
  | (a, b, c, d) =>
    let a' := a + b
    let d' := rotl (d ^^^ a') j
    let c' := c + d'
    (a', rotl (b ^^^ c') k, c', d')
def quarter (a b c d : UInt32) : UInt32 × UInt32 × UInt32 × UInt32 := qHalf 8 7 (qHalf 16 12 (a, b, c, d))
/-- Quarter of the words at four places. -/
def qAt (l : List UInt32) (p : Nat × Nat × Nat × Nat) : List UInt32 :=
  match p with
  | (i, j, k, m) => (((l.set i (quarter (l.getD i 0) (l.getD j 0) (l.getD k 0) (l.getD m 0)).1).set j (quarter (l.getD i 0) (l.getD j 0) (l.getD k 0) (l.getD m 0)).2.1).set k (quarter (l.getD i 0) (l.getD j 0) (l.getD k 0) (l.getD m 0)).2.2.1).set m (quarter (l.getD i 0) (l.getD j 0) (l.getD k 0) (l.getD m 0)).2.2.2
theorem qAt_length (l : List UInt32) (p : Nat × Nat × Nat × Nat) : (qAt l p).length = l.length := by
  obtain ⟨i, j, k, m⟩ := p
  simp [qAt]
def qPlaces : List (Nat × Nat × Nat × Nat) := [(0, 4, 8, 12), (1, 5, 9, 13), (2, 6, 10, 14), (3, 7, 11, 15), (0, 5, 10, 15), (1, 6, 11, 12), (2, 7, 8, 13), (3, 4, 9, 14)]
def dround (l : List UInt32) : List UInt32 := qPlaces.foldl qAt l
/-- So many of the eight. -/
def dpart (l : List UInt32) (n : Nat) : List UInt32 := (qPlaces.take n).foldl qAt l
theorem dpart_next (l : List UInt32) (n : Nat) (p : Nat × Nat × Nat × Nat) (h : qPlaces[n]? = some p) : dpart l (n + 1) = qAt (dpart l n) p := by
  rw [dpart, take_at h, List.foldl_append]
  rfl
theorem dpart_all (l : List UInt32) : dpart l 8 = dround l := rfl
theorem foldl_qAt_length (ps : List (Nat × Nat × Nat × Nat)) (l : List UInt32) : (ps.foldl qAt l).length = l.length := by
  induction ps generalizing l with
  | nil => rfl
  | cons p ps ih => rw [List.foldl_cons, ih, qAt_length]
theorem dpart_length (l : List UInt32) (n : Nat) : (dpart l n).length = l.length := foldl_qAt_length _ _
theorem dround_length (l : List UInt32) : (dround l).length = l.length := foldl_qAt_length _ _
def drounds (l : List UInt32) : Nat → List UInt32
  | 0 => l
  | n + 1 => dround (drounds l n)
theorem drounds_length (l : List UInt32) (n : Nat) : (drounds l n).length = l.length := by
  induction n with
  | zero => rfl
  | succ n ih => rw [drounds, dround_length, ih]
/-- A word of four bytes, the lowest first. -/
def lword (l : List UInt8) : UInt32 := (l.getD 0 0).toUInt32 ||| (l.getD 1 0).toUInt32 <<< 8 ||| (l.getD 2 0).toUInt32 <<< 16 ||| (l.getD 3 0).toUInt32 <<< 24
/-- So many words of four bytes each. -/
def lwords (l : List UInt8) (n : Nat) : List UInt32 := (List.range n).map fun i => lword ((l.drop (4 * i)).take 4)
theorem lwords_length (l : List UInt8) (n : Nat) : (lwords l n).length = n := by simp [lwords]
theorem lwords_next (l : List UInt8) (n : Nat) : lwords l (n + 1) = lwords l n ++ [lword ((l.drop (4 * n)).take 4)] := by simp [lwords, List.range_succ]
def sigma : List UInt32 := [1634760805, 857760878, 2036477234, 1797285236]
def words16C (key nonce : List UInt8) (ctr : UInt32) : List UInt32 := sigma ++ lwords key 8 ++ ctr :: lwords nonce 3
theorem words16C_length (key nonce : List UInt8) (ctr : UInt32) : (words16C key nonce ctr).length = 16 := by simp [words16C, sigma, lwords_length]
/-- A word's four bytes, the lowest first. -/
def lbytes (x : UInt32) : List UInt8 := [x.toUInt8, (x >>> 8).toUInt8, (x >>> 16).toUInt8, (x >>> 24).toUInt8]
def sumW (a b : List UInt32) : List UInt32 := List.zipWith (· + ·) a b
/-- The bytes of words, one behind the other. -/
def lstream (l : List UInt32) : List UInt8 := (l.map lbytes).flatten
theorem lstream_length (l : List UInt32) : (lstream l).length = 4 * l.length := by
  induction l with
  | nil => rfl
  | cons x l ih =>
    have e : lstream (x :: l) = lbytes x ++ lstream l := by simp [lstream]
    rw [e, List.length_append, ih]
    simp [lbytes]
    omega
theorem lstream_next (l : List UInt32) (k : Nat) (x : UInt32) (h : l[k]? = some x) : lstream (l.take (k + 1)) = lstream (l.take k) ++ lbytes x := by
  rw [take_at h]
  simp [lstream]
def blockC (key nonce : List UInt8) (ctr : UInt32) : List UInt8 := lstream (sumW (drounds (words16C key nonce ctr) 10) (words16C key nonce ctr))
theorem sumW_length (a b : List UInt32) (n : Nat) (ha : a.length = n) (hb : b.length = n) : (sumW a b).length = n := by simp [sumW, ha, hb]
theorem blockC_length (key nonce : List UInt8) (ctr : UInt32) : (blockC key nonce ctr).length = 64 := by
  rw [blockC, lstream_length, sumW_length _ _ 16 (by rw [drounds_length, words16C_length]) (words16C_length _ _ _)]
/-- The byte that the message's byte at i is blended with. -/
def keyByte (key nonce : List UInt8) (ctr : UInt32) (i : Nat) : UInt8 := (blockC key nonce (ctr + UInt32.ofNat (i / 64))).getD (i % 64) 0
def xorC (key nonce : List UInt8) (ctr : UInt32) (msg : List UInt8) : List UInt8 := msg.mapIdx fun i c => c ^^^ keyByte key nonce ctr i
theorem xorC_length (key nonce : List UInt8) (ctr : UInt32) (msg : List UInt8) : (xorC key nonce ctr msg).length = msg.length := by simp [xorC]
theorem xorC_xorC (key nonce : List UInt8) (ctr : UInt32) (msg : List UInt8) : xorC key nonce ctr (xorC key nonce ctr msg) = msg := by
  apply List.ext_getElem?
  intro i
  simp only [xorC, List.getElem?_mapIdx, Option.map_map]
  cases msg[i]? with
  | none => rfl
  | some c => simp [UInt8.xor_assoc]
theorem xorC_take (key nonce : List UInt8) (ctr : UInt32) (msg : List UInt8) (n : Nat) : xorC key nonce ctr (msg.take n) = (xorC key nonce ctr msg).take n := by
  apply List.ext_getElem?
  intro i
  simp only [xorC, List.getElem?_mapIdx, List.getElem?_take]
  split <;> rfl
theorem xorC_next (key nonce : List UInt8) (ctr : UInt32) (msg : List UInt8) (k : Nat) (c : UInt8) (h : msg[k]? = some c) : (xorC key nonce ctr msg).take (k + 1) = (xorC key nonce ctr msg).take k ++ [c ^^^ keyByte key nonce ctr k] := by
  apply take_at
  simp [xorC, h]

theorem ex_quarter : quarter 0x11111111 0x01020304 0x9b8d6f43 0x01234567 = (0xea2a92f4, 0xcb1cf8ce, 0x4581472e, 0x5881c4bb) := by kernel_rfl
def chaS : List (List UInt32) := [[1634760805, 857760878, 2036477234, 1797285236, 0, 0, 0, 0, 0, 0, 0, 0, 0, 0, 0, 0], [3831485001, 465051814, 3810167018, 3865553406, 708572787, 2260680856, 1175146506, 4195784838, 1401801230, 205755969, 16389820, 2315813162, 1807715081, 3274707926, 3147798601, 2277908837], [2987265446, 555851331, 2043056534, 2394542343, 683648334, 243939487, 2031723700, 842999353, 1769110809, 317167340, 3515309448, 1613476332, 1612483213, 416233319, 1624313532, 397031114], [42443425, 3537648111, 4075615518, 3280431870, 2457253921, 936163239, 535217241, 3858322967, 3618735395, 2694131698, 320827381, 1865984460, 1547860575, 496143739, 4107449562, 442763396], [3464398809, 2736782107, 1867918925, 914662315, 3272508460, 998218446, 2296453912, 505049583, 1927367832, 1097802169, 1733510303, 425094469, 2739030577, 28346074, 3103619896, 1123945486], [1308838156, 2549006073, 4135762692, 793240496, 1354003995, 3934035184, 3013862787, 3854227624, 1335860601, 1156916115, 2881466214, 1593652346, 2985647285, 85002989, 1444698375, 3558679988], [153779254, 551088281, 2573988431, 1784856811, 3150129412, 343203913, 2777219198, 1595256366, 2046321669, 3236133586, 875096108, 2039282348, 748642874, 426368672, 803736417, 3190166337], [1843350424, 1608384784, 3655185970, 1947739403, 3718507033, 1188705781, 838547146, 1894081315, 1188398960, 3234391270, 3125483095, 3295685470, 2940917475, 3868489986, 646047163, 674516562], [4142613381, 256929999, 2185938132, 4278346116, 1910216669, 1624086861, 2910867510, 2312475086, 2656191475, 382791205, 2196319126, 3503982164, 1805033478, 1199192055, 3527735948, 2991348835], [172609723, 4252221419, 3259208404, 3775952493, 2081980761, 957320013, 170075935, 235214466, 1531487041, 140632055, 1563676091, 399783725, 3319306763, 2649833516, 2961880544, 2236122496], [1282424849, 1562217778, 1812475918, 3181191391, 3088700093, 451775904, 3438229160, 3339548555, 2086224346, 2370328401, 1071654007, 927652024, 4105716586, 480319509, 1773569987, 2254827186]]
theorem chaS_0 : dround (chaS.getD 0 []) = chaS.getD 1 [] := by kernel_rfl
theorem chaS_1 : dround (chaS.getD 1 []) = chaS.getD 2 [] := by kernel_rfl
theorem chaS_2 : dround (chaS.getD 2 []) = chaS.getD 3 [] := by kernel_rfl
theorem chaS_3 : dround (chaS.getD 3 []) = chaS.getD 4 [] := by kernel_rfl
theorem chaS_4 : dround (chaS.getD 4 []) = chaS.getD 5 [] := by kernel_rfl
theorem chaS_5 : dround (chaS.getD 5 []) = chaS.getD 6 [] := by kernel_rfl
theorem chaS_6 : dround (chaS.getD 6 []) = chaS.getD 7 [] := by kernel_rfl
theorem chaS_7 : dround (chaS.getD 7 []) = chaS.getD 8 [] := by kernel_rfl
theorem chaS_8 : dround (chaS.getD 8 []) = chaS.getD 9 [] := by kernel_rfl
theorem chaS_9 : dround (chaS.getD 9 []) = chaS.getD 10 [] := by kernel_rfl
theorem chaS_words : words16C (List.replicate 32 0) (List.replicate 12 0) 0 = chaS.getD 0 [] := by kernel_rfl
theorem chaS_all : drounds (chaS.getD 0 []) 10 = chaS.getD 10 [] := by
  simp only [drounds, chaS_0, chaS_1, chaS_2, chaS_3, chaS_4, chaS_5, chaS_6, chaS_7, chaS_8, chaS_9]
theorem chaS_byte : (lstream (sumW (chaS.getD 10 []) (chaS.getD 0 []))).getD 0 0 = 118 := by kernel_rfl
theorem ex_xor : xorC (List.replicate 32 0) (List.replicate 12 0) 0 [0] = [118] := by
  have h : (blockC (List.replicate 32 0) (List.replicate 12 0) 0).getD 0 0 = 118 := by rw [blockC, chaS_words, chaS_all, chaS_byte]
  have h2 : keyByte (List.replicate 32 0) (List.replicate 12 0) 0 0 = 118 := by
    rw [keyByte]
    exact h
  simp only [xorC, List.mapIdx_cons, List.mapIdx_nil, h2]
  rfl
end Go.Proofs.YtmnhpkdldeifgaaDoor

namespace Go.Proofs.YtmnhpkdldeifgaaDoor
set_option maxRecDepth 100000
open Go.RowKit

/-- The four words behind so many steps. -/
def qSt (a b c d : UInt32) : Nat → UInt32 × UInt32 × UInt32 × UInt32
  | 0 => (a, b, c, d)
  | 1 => (a + b, b, c, rotl (d ^^^ (a + b)) 16)
  | 2 => qHalf 16 12 (a, b, c, d)
  | 3 => match qHalf 16 12 (a, b, c, d) with | (a, b, c, d) => (a + b, b, c, rotl (d ^^^ (a + b)) 8)
  | _ => quarter a b c d

theorem or_step (x y : UInt32) (i : Nat) (hi : i < 32) (hx : x.toNat < 2 ^ i) (hy : y.toNat * 2 ^ i < 4294967296) : (x ||| y <<< UInt32.ofNat i).toNat = x.toNat + y.toNat * 2 ^ i := by
  have e : (y <<< UInt32.ofNat i).toNat = y.toNat <<< i := by
    have hm : i % 4294967296 % 32 = i := by omega
    simp only [UInt32.toNat_shiftLeft, UInt32.toNat_ofNat', hm]
    rw [Nat.mod_eq_of_lt (by rw [Nat.shiftLeft_eq]; exact hy)]
  rw [UInt32.toNat_or, e, Nat.or_comm, ← Nat.shiftLeft_add_eq_or_of_lt hx, Nat.shiftLeft_eq, Nat.add_comm]
theorem lword_nat (a b c d : UInt8) : (lword [a, b, c, d]).toNat = a.toNat + b.toNat * 256 + c.toNat * 65536 + d.toNat * 16777216 := by
  have ha := a.toNat_lt
  have hb := b.toNat_lt
  have hc := c.toNat_lt
  have hd := d.toNat_lt
  have s1 := or_step a.toUInt32 b.toUInt32 8 (by decide) (by simp; omega) (by simp; omega)
  have s2 := or_step (a.toUInt32 ||| b.toUInt32 <<< UInt32.ofNat 8) c.toUInt32 16 (by decide) (by rw [s1]; simp; omega) (by simp; omega)
  have s3 := or_step (a.toUInt32 ||| b.toUInt32 <<< UInt32.ofNat 8 ||| c.toUInt32 <<< UInt32.ofNat 16) d.toUInt32 24 (by decide) (by rw [s2, s1]; simp; omega) (by simp; omega)
  have e : lword [a, b, c, d] = a.toUInt32 ||| b.toUInt32 <<< UInt32.ofNat 8 ||| c.toUInt32 <<< UInt32.ofNat 16 ||| d.toUInt32 <<< UInt32.ofNat 24 := rfl
  rw [e, s3, s2, s1]
  simp
theorem lword_sum (a b c d : UInt8) : d.toUInt32 * 16777216 + c.toUInt32 * 65536 + b.toUInt32 * 256 + a.toUInt32 = lword [a, b, c, d] := by
  have ha := a.toNat_lt
  have hb := b.toNat_lt
  have hc := c.toNat_lt
  have hd := d.toNat_lt
  apply UInt32.toNat_inj.1
  rw [lword_nat]
  simp
  omega

end Go.Proofs.YtmnhpkdldeifgaaDoor

namespace Go.Proofs.YtmnhpkdldeifgaaDoor
set_option maxRecDepth 100000
open Go.RowKit

theorem word_info : (Tryd.prog.info? 64).map (fun i => (i.zero, i.size, i.bytes)) = some (some (.int .u32 0), 1, 4) := by kernel_rfl
/-- The slice v is just these words. -/
def WordsAt (w : World) (v : Value) (l : List UInt32) : Prop :=
  ∃ b off cap, v = .slice (some ⟨b, off, none⟩) l.length cap ∧ l.length ≤ cap ∧ b < w.heap.size ∧ ∀ j x, l[j]? = some x → w.cell? ⟨b, off + j, none⟩ = some (wd x)
theorem WordsAt.below {w w' : World} {v : Value} {l : List UInt32} (h : WordsAt w v l) (hb : Below w.heap.size w w') : WordsAt w' v l := by
  obtain ⟨b, off, cap, rfl, hc, hlt, hcell⟩ := h
  exact ⟨b, off, cap, rfl, hc, Nat.lt_of_lt_of_le hlt hb.size, fun j x hj => (hb.cell (p := ⟨b, off + j, none⟩) hlt).trans (hcell j x hj)⟩
theorem WordsAt.of_heap {w w' : World} {v : Value} {l : List UInt32} (h : WordsAt w v l) (hh : w'.heap = w.heap) : WordsAt w' v l := by
  obtain ⟨b, off, cap, rfl, hc, hlt, hcell⟩ := h
  refine ⟨b, off, cap, rfl, hc, by rw [hh]; exact hlt, fun j x hj => ?_⟩
  rw [← hcell j x hj]
  exact World.cell?_of_block (by rw [hh])
theorem WordsAt.whole {w : World} {g : Nat} {t : TypeId} {l : List UInt32} (h : Whole w g t (wv l)) : WordsAt w (.slice (some ⟨g, 0, none⟩) l.length l.length) l :=
  ⟨g, 0, _, rfl, Nat.le_refl _, h.lt, fun j x hj => by rw [Nat.zero_add]; exact (h.at_ j).trans (wv_at _ _ _ hj)⟩
theorem WordsAt.of_own {w : World} {base : Nat} {v : Value} {l : List UInt32} (h : w.ownsRow base 64 1 v l.length (l.map wd)) (hl : 0 < l.length) : WordsAt w v l := by
  have hc := @World.ownsRow.cells _ _ _ _ _ _ _ h
  have hlt := h.lt
  rcases h.2 with ⟨rfl, hn⟩ | ⟨g, cap, cur, rfl, _, _, hcap, _⟩
  · omega
  · refine ⟨g, 0, cap, rfl, hcap, (hlt g rfl).2, fun j x hj => ?_⟩
    have q := hc (g := g) rfl j (wd x) (by simp [hj])
    have ha : (⟨g, 0, none⟩ : Addr).add j = ⟨g, 0 + j, none⟩ := by unfold Addr.add; split <;> simp_all
    rwa [ha] at q

section
variable {ops : Array Oper} {rest : List Oper} {o : Oper} {a : Act} {w : World} {Q : Exit → Act → World → Prop}
end
theorem own_words_lit (w : World) (l : List UInt32) (hl : l.length ≤ 1000000) : (w.alloc (.cells (wv l) 64)).ownsRow w.heap.size 64 1 (.slice (some ⟨w.heap.size, 0, none⟩) l.length l.length) l.length (l.map wd) := by
  have h := World.ownsRow_lit (e := 64) (base := w.heap.size) (size := 1) w (wv l) l.length (Nat.le_refl _) (by simp only [maxLen]; omega) (by rw [wv_size]; omega)
  have e : (wv l).toList = l.map wd := by simp [wv]
  rwa [e] at h

section
variable {ops : Array Oper} {rest : List Oper} {o : Oper} {a : Act} {w : World} {Q : Exit → Act → World → Prop}
end
/-- A word stored among words of one's own. -/
theorem wp_store_own {o : Oper} {a : Act} {w : World} {Q : Exit → Act → World → Prop} {K : Act → World → Prop} (x y : Operand) (ho : o.op = .store 64 x y)
    (base g i n cap : Nat) (hx : a.eval x = .pointer (some ⟨g, i, none⟩)) (v : UInt32) (hy : a.eval y = wd v) (l : List UInt32) (hl : l.length = n) (hown : w.ownsRow base 64 1 (.slice (some ⟨g, 0, none⟩) n cap) n (l.map wd)) (hi : i < n)
    (h : ∀ w', w.grownBy w' (some g) → w'.ownsRow base 64 1 (.slice (some ⟨g, 0, none⟩) n cap) n ((l.set i v).map wd) → K (a.put o.dst undef) w') : o.wp Tryd.prog a w K Q := by
  have c1 : w.cell? ⟨g, i, none⟩ = some (wd (l[i]'(by omega))) := (hown.cellAt i (by omega)).trans (by simp [List.getElem?_eq_getElem (show i < l.length by omega)])
  have q := (hown.stored i (wd v)).1
  rw [show (l.map wd).set i (wd v) = (l.set i v).map wd by simp [List.map_set]] at q
  have hh := h _ (grown_store w g i (wd v)) q
  have hz : (sizeOf 64).run Tryd.prog w = .ok 1 w := by kernel_rfl
  unfold Oper.wp execOp
  have hc : (wd v).cells = #[wd v] := rfl
  simp only [ho, hx, hy, Instr.storeAt, Instr.sureAddr, storeVar, hc, Sem.run_bind, Sem.run_pure, Result.andThen_ok, hz, List.size_toArray, List.length_cons, List.length_nil, ne_eq, not_true_eq_false, if_false, store_wd w g i _ c1 (hown.frozenAt i) v, Oper.upon]
  exact hh
theorem WordsAt.at_ {w : World} {g off n cap : Nat} {l : List UInt32} (h : WordsAt w (.slice (some ⟨g, off, none⟩) n cap) l) (j : Nat) (x : UInt32) (hj : l[j]? = some x) : w.cell? ⟨g, off + j, none⟩ = some (wd x) := by
  obtain ⟨b, o, c, e, -, -, hc⟩ := h
  injection e with e1 _ _
  injection e1 with e1
  injection e1 with e1 e2 _
  subst e1 e2
  exact hc j x hj
end Go.Proofs.YtmnhpkdldeifgaaDoor
