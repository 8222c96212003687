/- text: what holds while the bytes of a text are gone through. -/
import Derived.Test.YtligmiajlbjecaaDoorXTx15
import Derived.Test.YtligmiajlbjecaaDoorXTx19
import Derived.Lib.OthersKept
namespace Go.Proofs.YtligmiajlbjecaaDoor
open Go.RowKit
set_option linter.unusedVariables false
set_option linter.unusedSimpArgs false
set_option maxRecDepth 8000

def us (l : List (BitVec 8)) : List UInt8 := l.map fun x => UInt8.ofNat x.toNat
theorem us_len (l : List (BitVec 8)) : (us l).length = l.length := List.length_map ..
theorem us_bvs (m : List UInt8) : us (bvs m) = m := by
  unfold us bvs
  rw [List.map_map]
  conv => rhs; rw [← List.map_id m]
  refine List.map_congr_left (fun c _ => ?_)
  simp only [Function.comp, BitVec.toNat_ofNat, id]
  rw [Nat.mod_eq_of_lt c.toNat_lt]
  exact UInt8.ofNat_toNat
theorem bvs_us (l : List (BitVec 8)) : bvs (us l) = l := by
  unfold us bvs
  rw [List.map_map]
  conv => rhs; rw [← List.map_id l]
  refine List.map_congr_left (fun c _ => ?_)
  simp only [Function.comp, id]
  apply BitVec.eq_of_toNat_eq
  rw [BitVec.toNat_ofNat, UInt8.toNat_ofNat', Nat.mod_eq_of_lt c.isLt, Nat.mod_eq_of_lt c.isLt]
theorem str_us (l : List (BitVec 8)) : str l = mkS (us l) := by
  conv => lhs; rw [← bvs_us l]
  exact str_bvs _
theorem us_at (l : List (BitVec 8)) (i : Nat) (h : i < l.length) : (((us l)[i]'(by rw [us_len]; exact h)).toNat : Int) = bt l i := by
  unfold us bt
  rw [List.getElem_map, UInt8.toNat_ofNat', Nat.mod_eq_of_lt (l[i]).isLt]
  simp [List.getD, h]
theorem us_last (l : List (BitVec 8)) (h : 0 < l.length) : ((us l).getLast?.getD 0 = 0) ↔ bt l (l.length - 1) = 0 := by
  rw [List.getLast?_eq_getElem?, us_len, List.getElem?_eq_getElem (by rw [us_len]; omega), ← us_at l (l.length - 1) (by omega)]
  simp only [Option.getD_some]
  constructor
  · intro e; rw [e]; rfl
  · intro e
    apply UInt8.toNat_inj.1
    show _ = 0
    omega
theorem gtR_short {l : List (BitVec 8)} (h : 0 < l.length) (hb : ¬ bt l (l.length - 1) = 0) : gtR (us l) = ([], 10) := by
  unfold gtR
  rw [if_neg (fun e => hb ((us_last l h).1 e))]
theorem gtR_go {l : List (BitVec 8)} (h : l.length = 0 ∨ bt l (l.length - 1) = 0) : gtR (us l) = gtN (us l) [] [] := by
  unfold gtR
  rcases h with h | h
  · rw [List.eq_nil_of_length_eq_zero h]; rfl
  · rcases Nat.eq_zero_or_pos l.length with h0 | h0
    · rw [List.eq_nil_of_length_eq_zero h0]; rfl
    · rw [if_pos ((us_last l h0).2 h)]
/-- how far a character goes, and what it is -/
theorem dec_facts (s : ByteArray) (pos : Nat) (h : pos < s.size) :
    0 < (Utf8.decode s pos).2 ∧ pos + (Utf8.decode s pos).2 ≤ s.size ∧ (((s[pos]'h).toNat < 128 ∧ Utf8.decode s pos = ((s[pos]'h).toNat, 1)) ∨
      (128 ≤ (Utf8.decode s pos).1 ∧ ∀ j, pos ≤ j → (hj : j < s.size) → j < pos + (Utf8.decode s pos).2 → 128 ≤ (s[j]'hj).toNat)) := by
  have g0 := get_at h
  by_cases ha : (s[pos]'h).toNat < 128
  · rw [decode_ascii s pos h ha]
    exact ⟨by simp, by simp; omega, .inl ⟨ha, rfl⟩⟩
  · have hh : 128 ≤ (s.get! pos).toNat := by rw [g0]; omega
    have d1 := decode_high s pos hh
    have key : 0 < (Utf8.decode s pos).2 ∧ pos + (Utf8.decode s pos).2 ≤ s.size ∧ ∀ j, pos < j → j < pos + (Utf8.decode s pos).2 → 128 ≤ (s.get! j).toNat := by
      unfold Utf8.decode
      simp only [Nat.add_zero]
      split
      · omega
      · split
        · rename_i hc
          simp only [Bool.and_eq_true, decide_eq_true_eq, beq_iff_eq] at hc
          split
          · refine ⟨by simp, by simp; omega, fun j h1 h2 => ?_⟩
            simp only at h2
            obtain rfl : j = pos + 1 := by omega
            omega
          · exact ⟨by simp, by simp; omega, fun j h1 h2 => by simp only at h2; omega⟩
        · split
          · rename_i hc
            simp only [Bool.and_eq_true, decide_eq_true_eq, beq_iff_eq] at hc
            split
            · refine ⟨by simp, by simp; omega, fun j h1 h2 => ?_⟩
              simp only at h2
              have : j = pos + 1 ∨ j = pos + 2 := by omega
              rcases this with rfl | rfl <;> omega
            · exact ⟨by simp, by simp; omega, fun j h1 h2 => by simp only at h2; omega⟩
          · split
            · rename_i hc
              simp only [Bool.and_eq_true, decide_eq_true_eq, beq_iff_eq] at hc
              split
              · refine ⟨by simp, by simp; omega, fun j h1 h2 => ?_⟩
                simp only at h2
                have : j = pos + 1 ∨ j = pos + 2 ∨ j = pos + 3 := by omega
                rcases this with rfl | rfl | rfl <;> omega
              · exact ⟨by simp, by simp; omega, fun j h1 h2 => by simp only at h2; omega⟩
            · exact ⟨by simp, by simp; omega, fun j h1 h2 => by simp only at h2; omega⟩
    refine ⟨key.1, key.2.1, .inr ⟨d1, fun j h1 hj h2 => ?_⟩⟩
    rcases Nat.lt_or_ge pos j with h3 | h3
    · have := key.2.2 j h3 h2
      rw [get_at hj] at this
      exact this
    · obtain rfl : j = pos := by omega
      omega
/-- the bytes up to pos: the lines that are done, and the line so far -/
structure Ln (L : List UInt8) (pos first : Nat) (mid : Int) (out : List Pr) (x : List UInt8) : Prop where
  le : pos ≤ L.length
  first_le : first ≤ pos
  line : x = (L.take pos).drop first
  ans : gtN L [] [] = gtN (L.drop pos) out x
  few : out.length ≤ 64
  mid : (mid = -1 ∧ ∀ c ∈ x, c ≠ 61) ∨ ∃ a b, x = a ++ 61 :: b ∧ (∀ c ∈ a, c ≠ 61) ∧ mid = ((first + a.length : Nat) : Int)
section
variable {L x : List UInt8} {pos first : Nat} {mid : Int} {out : List Pr}
theorem Ln.start (L : List UInt8) : Ln L 0 0 (-1) [] [] := ⟨Nat.zero_le _, Nat.le_refl _, rfl, rfl, by simp, .inl ⟨rfl, fun c h => by cases h⟩⟩
theorem take_more (L : List UInt8) (pos k first : Nat) (hf : first ≤ pos) (hp : pos ≤ L.length) : (L.take (pos + k)).drop first = (L.take pos).drop first ++ (L.drop pos).take k := by
  rw [List.take_add, List.drop_append_of_le_length (by rw [List.length_take]; omega)]
theorem Ln.xlen (h : Ln L pos first mid out x) : x.length = pos - first := by
  rw [h.line, List.length_drop, List.length_take]; have := h.le; omega
/-- bytes that are no '=' and no end; or the line has its '=' -/
theorem Ln.over (h : Ln L pos first mid out x) (k : Nat) (hk : pos + k ≤ L.length) (h0 : ∀ c ∈ (L.drop pos).take k, c ≠ 0) (h61 : ¬ mid = -1 ∨ ∀ c ∈ (L.drop pos).take k, c ≠ 61) :
    Ln L (pos + k) first mid out (x ++ (L.drop pos).take k) := by
  refine ⟨hk, by have := h.first_le; omega, by rw [take_more L pos k first h.first_le h.le, ← h.line], ?_, h.few, ?_⟩
  · rw [h.ans]
    conv => lhs; rw [← List.take_append_drop k (L.drop pos)]
    rw [gtN_more h0, List.drop_drop]
  · rcases h.mid with ⟨e, hx⟩ | ⟨a, b, e, ha, em⟩
    · rcases h61 with h61 | h61
      · exact absurd e h61
      · refine .inl ⟨e, fun c hc => ?_⟩
        rcases List.mem_append.1 hc with hc | hc
        · exact hx c hc
        · exact h61 c hc
    · exact .inr ⟨a, b ++ (L.drop pos).take k, by rw [e]; simp, ha, em⟩
theorem one_take (h : pos < L.length) : (L.drop pos).take 1 = [L[pos]] := by
  rw [List.drop_eq_getElem_cons h]; rfl
/-- the first '=' of a line -/
theorem Ln.equal (h : Ln L pos first (-1) out x) (hp : pos < L.length) (hc : L[pos] = 61) : Ln L (pos + 1) first (pos : Int) out (x ++ [61]) := by
  have e : (L.drop pos).take 1 = [61] := by rw [one_take hp, hc]
  have hx : ∀ c ∈ x, c ≠ 61 := by
    rcases h.mid with ⟨-, hx⟩ | ⟨a, b, -, -, em⟩
    · exact hx
    · omega
  refine ⟨hp, by have := h.first_le; omega, by rw [take_more L pos 1 first h.first_le h.le, ← h.line, e], ?_, h.few, .inr ⟨x, [], rfl, hx, by rw [h.xlen]; have := h.first_le; omega⟩⟩
  rw [h.ans]
  conv => lhs; rw [List.drop_eq_getElem_cons hp, hc]
  rw [gtN_one (by decide)]
theorem Ln.zero (h : Ln L pos first mid out x) (hp : pos < L.length) (hc : L[pos] = 0) : gtN L [] [] = gtN (0 :: L.drop (pos + 1)) out x := by
  rw [h.ans]
  conv => lhs; rw [List.drop_eq_getElem_cons hp, hc]
theorem Ln.full (h : Ln L pos first mid out x) (hp : pos < L.length) (hc : L[pos] = 0) (h64 : out.length = 64) : gtN L [] [] = ([], 3) := by
  rw [h.zero hp hc, gtN_full h64]
theorem Ln.nowhere (h : Ln L pos first (-1) out x) (hp : pos < L.length) (hc : L[pos] = 0) (h64 : ¬ out.length = 64) : gtN L [] [] = ([], 11) := by
  have hx : ∀ c ∈ x, c ≠ 61 := by
    rcases h.mid with ⟨-, hx⟩ | ⟨a, b, -, -, em⟩
    · exact hx
    · omega
  rw [h.zero hp hc, gtN_bad h64 _ (lineP_none hx)]
theorem Ln.bad (h : Ln L pos first mid out x) (hp : pos < L.length) (hc : L[pos] = 0) (h64 : ¬ out.length = 64) {a b : List UInt8} (e : x = a ++ 61 :: b) (ha : ∀ c ∈ a, c ≠ 61) (hk : okL out (mkS a, mkS b) = false) : gtN L [] [] = ([], 11) := by
  rw [h.zero hp hc, gtN_bad h64 _ (by rw [e, lineP_some b ha, hk]; rfl)]
theorem Ln.next (h : Ln L pos first mid out x) (hp : pos < L.length) (hc : L[pos] = 0) (h64 : ¬ out.length = 64) {a b : List UInt8} (e : x = a ++ 61 :: b) (ha : ∀ c ∈ a, c ≠ 61) (hk : okL out (mkS a, mkS b) = true) :
    Ln L (pos + 1) (pos + 1) (-1) (out ++ [(mkS a, mkS b)]) [] :=
  ⟨hp, Nat.le_refl _, by rw [List.drop_of_length_le (by rw [List.length_take]; omega)], by rw [h.zero hp hc, gtN_ok h64 _ (by rw [e, lineP_some b ha, hk]; rfl)], by rw [List.length_append, List.length_singleton]; have := h.few; omega, .inl ⟨rfl, fun c h => by cases h⟩⟩
theorem Ln.done (h : Ln L pos first mid out x) (hp : ¬ pos < L.length) : gtN L [] [] = (out, 0) := by
  rw [h.ans, List.drop_of_length_le (by omega)]; rfl
/-- the pieces of a line as parts of the text -/
theorem Ln.parts (h : Ln L pos first mid out x) {a b : List UInt8} (e : x = a ++ 61 :: b) : first + a.length + 1 + b.length = pos ∧ (L.take (first + a.length)).drop first = a ∧ (L.take pos).drop (first + a.length + 1) = b := by
  have hl := h.xlen
  rw [e] at hl
  simp only [List.length_append, List.length_cons] at hl
  have hf := h.first_le
  have h1 : first + a.length + 1 + b.length = pos := by omega
  have e2 : (L.take pos).drop first = a ++ 61 :: b := by rw [← h.line, e]
  refine ⟨h1, ?_, ?_⟩
  · have : L.take (first + a.length) = (L.take pos).take (first + a.length) := by rw [List.take_take, Nat.min_eq_left (by omega)]
    rw [this, List.drop_take, Nat.add_sub_cancel_left, e2]
    simp
  · have : (L.take pos).drop (first + a.length + 1) = ((L.take pos).drop first).drop (a.length + 1) := by rw [List.drop_drop]; congr 1
    rw [this, e2]
    simp
end
theorem ext_list (s : ByteArray) (i j : Nat) : s.extract i j = mkS ((s.data.toList.take j).drop i) := by
  have h : (s.extract i j).data.toList = (s.data.toList.take j).drop i := by
    rw [ByteArray.data_extract, Array.toList_extract]
    simp [List.extract, List.drop_take]
  rw [← mkS_back (s.extract i j), h]
/-- while the characters of a text are gone through: the iterator, and the pairs so far -/
structure GtI (w wr : World) (s : ByteArray) (pos : Nat) (v : Value) (out : List Pr) : Prop where
  bel : Below w.heap.size w wr
  itr : wr.heap[w.heap.size]? = some (.stringIter s pos)
  own : ∃ q, GSl kPr wr v q out ∧ ∀ b, q = some b → w.heap.size < b
section
variable {w wr w2 : World} {s : ByteArray} {pos : Nat} {v : Value} {out : List Pr}
theorem GtI.start (w : World) (s : ByteArray) : GtI w (w.iter s 0) s 0 (.slice none 0 0) [] :=
  ⟨iter_below _ _ _, World.iter_heap w s 0, none, GSl.nil _ _, fun b h => by cases h⟩
theorem GtI.pos_eq (h : GtI w wr s pos v out) : iterPos w.heap.size wr = pos := by unfold iterPos; rw [h.itr]
theorem GtI.next (h : GtI w wr s pos v out) (hp : pos < s.size) (ty : TypeId) : ∃ w2, (Instr.next (.pointer (some ⟨w.heap.size, 0, none⟩)) true ty).run Tryd.prog wr = .ok (.tuple #[.bool true, .int .i64 pos, .int .i32 (Utf8.decode s pos).1]) w2 ∧ GtI w w2 s (pos + (Utf8.decode s pos).2) v out := by
  refine ⟨_, Go.Lib.run_next_any_at wr w.heap.size s pos ty h.itr hp, ?_, Go.Lib.iterAt_heap _ _ _ _ _ h.itr, ?_⟩
  · refine ⟨h.bel.os, h.bel.tape, h.bel.output, by simp [World.iterAt]; exact h.bel.size, fun k hk => ?_⟩
    rw [Go.Lib.iterAt_other _ _ _ _ _ (by omega)]
    exact h.bel.block k hk
  · obtain ⟨q, hq, hb⟩ := h.own
    exact ⟨q, hq.same (fun k hk => Go.Lib.iterAt_other _ _ _ _ _ (by have := hb k hk; omega)), hb⟩
theorem GtI.stop (h : GtI w wr s pos v out) (hp : ¬ pos < s.size) (ty : TypeId) : (Instr.next (.pointer (some ⟨w.heap.size, 0, none⟩)) true ty).run Tryd.prog wr = .ok (.tuple #[.bool false]) wr := Go.Lib.run_next_end_at wr w.heap.size s pos ty h.itr hp
theorem GtI.later (h : GtI w wr s pos v out) (hb : Below wr.heap.size wr w2) : GtI w w2 s pos v out := by
  refine ⟨below_then h.bel hb, ?_, ?_⟩
  · rw [hb.block _ (by have := (Array.getElem?_eq_some_iff.1 h.itr).1; omega)]; exact h.itr
  · obtain ⟨q, hq, hx⟩ := h.own
    exact ⟨q, hq.later hb, hx⟩
theorem GtI.at (h : GtI w wr s pos v out) : ∃ a c, v = .slice a out.length c ∧ out.length ≤ c ∧ c ≤ maxLen ∧ GAt kPr wr v out := by
  obtain ⟨q, h1, h2⟩ := h.own
  obtain ⟨a, c, e, h3, h4, -⟩ := h1.cell kPr_ok
  exact ⟨a, c, e, h3, h4, h1.at kPr_ok⟩
theorem GtI.pri (h : GtI w wr s pos v out) : PrI kPr w wr v out := by
  obtain ⟨q, h1, h2⟩ := h.own
  exact ⟨⟨q, h1, fun b hb => Nat.le_of_lt (h2 b hb)⟩, h.bel⟩
theorem GtI.more (h : GtI w wr s pos v out) (x : Pr) (hl : out.length ≤ 64) :
    ∃ v2 w2, (Builtin.append_ #[kPr.T, kPr.T] kPr.T #[v, .slice (some ⟨wr.heap.size, 0, Option.none⟩) 1 1]).run Tryd.prog (wr.alloc (.cells #[.string x.1, .string x.2] kPr.E)) = .ok v2 w2 ∧ GtI w w2 s pos v2 (out ++ [x]) := by
  have hlt := (Array.getElem?_eq_some_iff.1 h.itr).1
  obtain ⟨q, hq, hb⟩ := h.own
  have bn : Below wr.heap.size wr (wr.alloc (.cells #[.string x.1, .string x.2] kPr.E)) := (Below.refl _ _).alloc (Nat.le_refl _) _
  have h2 := h.later bn
  have hx : GAt kPr (wr.alloc (.cells #[.string x.1, .string x.2] kPr.E)) (.slice (some ⟨wr.heap.size, 0, Option.none⟩) 1 1) [x] := by
    refine ⟨_, 1, rfl, by simp, (fun h => by cases h), fun ad h j u hj => ?_⟩
    cases h
    rw [Addr.add_lit, blk_at (Blk.new' wr kPr.E [.string x.1, .string x.2]), Nat.zero_add]
    simpa [Kd.cs, kPr] using hj
  obtain ⟨v2, w2, q2, hr, ho, hg, hor⟩ := (hq.later bn).appendC kPr_ok hx (by simp; omega) (by simp [kPr]; omega) kPr.T
  refine ⟨v2, w2, hr, h2.bel.grown hg h2.bel.size (fun k hk => Nat.le_of_lt (hb k hk)), ?_, q2, ho, fun b hb2 => ?_⟩
  · rw [hg.block w.heap.size (by have := bn.size; omega) (fun e => by have := hb _ e.symm; omega)]; exact h2.itr
  · rcases hor b hb2 with e | e
    · exact hb b e
    · have := bn.size; omega
end
end Go.Proofs.YtligmiajlbjecaaDoor

