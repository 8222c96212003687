/- text: what holds while the bytes of a text are gone through. -/
import Derived.Test.YtligmiajlbjecaaDoorXTx15
import Derived.Lib.OthersKept
namespace Go.Proofs.YtligmiajlbjecaaDoor
open Go.RowKit
set_option linter.unusedVariables false
set_option linter.unusedSimpArgs false
set_option maxRecDepth 8000

def us (l : List (BitVec 8)) : List UInt8 := l.map fun x => UInt8.ofNat x.toNat
theorem us_len (l : List (BitVec 8)) : (us l).length = l.length := List.length_map ..
theorem us_bvs (m : List UInt8) : us (bvs m) = m := by
  unfold us bvs
  rw [List.map_map]
  conv => rhs; rw [← List.map_id m]
  refine List.map_congr_left (fun c _ => ?_)
  simp only [Function.comp, BitVec.toNat_ofNat, id]
  rw [Nat.mod_eq_of_lt c.toNat_lt]
  exact UInt8.ofNat_toNat
theorem bvs_us (l : List (BitVec 8)) : bvs (us l) = l := by
  unfold us bvs
  rw [List.map_map]
  conv => rhs; rw [← List.map_id l]
  refine List.map_congr_left (fun c _ => ?_)
  simp only [Function.comp, id]
  apply BitVec.eq_of_toNat_eq
  rw [BitVec.toNat_ofNat, UInt8.toNat_ofNat', Nat.mod_eq_of_lt c.isLt, Nat.mod_eq_of_lt c.isLt]
theorem str_us (l : List (BitVec 8)) : str l = mkS (us l) := by
  conv => lhs; rw [← bvs_us l]
  exact str_bvs _
theorem us_at (l : List (BitVec 8)) (i : Nat) (h : i < l.length) : (((us l)[i]'(by rw [us_len]; exact h)).toNat : Int) = bt l i := by
  unfold us bt
  rw [List.getElem_map, UInt8.toNat_ofNat', Nat.mod_eq_of_lt (l[i]).isLt]
  simp [List.getD, h]
theorem us_last (l : List (BitVec 8)) (h : 0 < l.length) : ((us l).getLast?.getD 0 = 0) ↔ bt l (l.length - 1) = 0 := by
  rw [List.getLast?_eq_getElem?, us_len, List.getElem?_eq_getElem (by rw [us_len]; omega), ← us_at l (l.length - 1) (by omega)]
  simp only [Option.getD_some]
  constructor
  · intro e; rw [e]; rfl
  · intro e
    apply UInt8.toNat_inj.1
    show _ = 0
    omega
theorem gtR_short {l : List (BitVec 8)} (h : 0 < l.length) (hb : ¬ bt l (l.length - 1) = 0) : gtR (us l) = ([], 10) := by
  unfold gtR
  rw [if_neg (fun e => hb ((us_last l h).1 e))]
theorem gtR_go {l : List (BitVec 8)} (h : l.length = 0 ∨ bt l (l.length - 1) = 0) : gtR (us l) = gtN (us l) [] [] := by
  unfold gtR
  rcases h with h | h
  · rw [List.eq_nil_of_length_eq_zero h]; rfl
  · rcases Nat.eq_zero_or_pos l.length with h0 | h0
    · rw [List.eq_nil_of_length_eq_zero h0]; rfl
    · rw [if_pos ((us_last l h0).2 h)]
/-- how far a character goes, and what it is -/
theorem dec_facts (s : ByteArray) (pos : Nat) (h : pos < s.size) :
    0 < (Utf8.decode s pos).2 ∧ pos + (Utf8.decode s pos).2 ≤ s.size ∧ (((s[pos]'h).toNat < 128 ∧ Utf8.decode s pos = ((s[pos]'h).toNat, 1)) ∨
      (128 ≤ (Utf8.decode s pos).1 ∧ ∀ j, pos ≤ j → (hj : j < s.size) → j < pos + (Utf8.decode s pos).2 → 128 ≤ (s[j]'hj).toNat)) := by
  have g0 := get_at h
  by_cases ha : (s[pos]'h).toNat < 128
  · rw [decode_ascii s pos h ha]
    exact ⟨by simp, by simp; omega, .inl ⟨ha, rfl⟩⟩
  · have hh : 128 ≤ (s.get! pos).toNat := by rw [g0]; omega
    have d1 := decode_high s pos hh
    have key : 0 < (Utf8.decode s pos).2 ∧ pos + (Utf8.decode s pos).2 ≤ s.size ∧ ∀ j, pos < j → j < pos + (Utf8.decode s pos).2 → 128 ≤ (s.get! j).toNat := by
      unfold Utf8.decode
      simp only [Nat.add_zero]
      split
      · omega
      · split
        · rename_i hc
          simp only [Bool.and_eq_true, decide_eq_true_eq, beq_iff_eq] at hc
          split
          · refine ⟨by simp, by simp; omega, fun j h1 h2 => ?_⟩
            simp only at h2
            obtain rfl : j = pos + 1 := by omega
            omega
          · exact ⟨by simp, by simp; omega, fun j h1 h2 => by simp only at h2; omega⟩
        · split
          · rename_i hc
            simp only [Bool.and_eq_true, decide_eq_true_eq, beq_iff_eq] at hc
            split
            · refine ⟨by simp, by simp; omega, fun j h1 h2 => ?_⟩
              simp only at h2
              have : j = pos + 1 ∨ j = pos + 2 := by omega
              rcases this with rfl | rfl <;> omega
            · exact ⟨by simp, by simp; omega, fun j h1 h2 => by simp only at h2; omega⟩
          · split
            · rename_i hc
              simp only [Bool.and_eq_true, decide_eq_true_eq, beq_iff_eq] at hc
              split
              · refine ⟨by simp, by simp; omega, fun j h1 h2 => ?_⟩
                simp only at h2
                have : j = pos + 1 ∨ j = pos + 2 ∨ j = pos + 3 := by omega
                rcases this with rfl | rfl | rfl <;> omega
              · exact ⟨by simp, by simp; omega, fun j h1 h2 => by simp only at h2; omega⟩
            · exact ⟨by simp, by simp; omega, fun j h1 h2 => by simp only at h2; omega⟩
    refine ⟨key.1, key.2.1, .inr ⟨d1, fun j h1 hj h2 => ?_⟩⟩
    rcases Nat.lt_or_ge pos j with h3 | h3
    · have := key.2.2 j h3 h2
      rw [get_at hj] at this
      exact this
    · obtain rfl : j = pos := by omega
      omega
/-- the bytes up to pos: the lines that are done, and the line so far -/
structure Ln (L : List UInt8) (pos first : Nat) (mid : Int) (out : List Pr) (x : List UInt8) : Prop where
  le : pos ≤ L.length
  first_le : first ≤ pos
  line : x = (L.take pos).drop first
  ans : gtN L [] [] = gtN (L.drop pos) out x
  few : out.length ≤ 64
  mid : (mid = -1 ∧ ∀ c ∈ x, c ≠ 61) ∨ ∃ a b, x = a ++ 61 :: b ∧ (∀ c ∈ a, c ≠ 61) ∧ mid = ((first + a.length : Nat) : Int)
section
variable {L x : List UInt8} {pos first : Nat} {mid : Int} {out : List Pr}
theorem Ln.start (L : List UInt8) : Ln L 0 0 (-1) [] [] := ⟨Nat.zero_le _, Nat.le_refl _, rfl, rfl, by simp, .inl ⟨rfl, fun c h => by cases h⟩⟩
theorem take_more (L : List UInt8) (pos k first : Nat) (hf : first ≤ pos) (hp : pos ≤ L.length) : (L.take (pos + k)).drop first = (L.take pos).drop first ++ (L.drop pos).take k := by
  rw [List.take_add, List.drop_append_of_le_length (by rw [List.length_take]; omega)]
theorem Ln.xlen (h : Ln L pos first mid out x) : x.length = pos - first := by
  rw [h.line, List.length_drop, List.length_take]; have := h.le; omega
/-- bytes that are no '=' and no end; or the line has its '=' -/
theorem Ln.over (h : Ln L pos first mid out x) (k : Nat) (hk : pos + k ≤ L.length) (h0 : ∀ c ∈ (L.drop pos).take k, c ≠ 0) (h61 : ¬ mid = -1 ∨ ∀ c ∈ (L.drop pos).take k, c ≠ 61) :
    Ln L (pos + k) first mid out (x ++ (L.drop pos).take k) := by
  refine ⟨hk, by have := h.first_le; omega, by rw [take_more L pos k first h.first_le h.le, ← h.line], ?_, h.few, ?_⟩
  · rw [h.ans]
    conv => lhs; rw [← List.take_append_drop k (L.drop pos)]
    rw [gtN_more h0, List.drop_drop]
  · rcases h.mid with ⟨e, hx⟩ | ⟨a, b, e, ha, em⟩
    · rcases h61 with h61 | h61
      · exact absurd e h61
      · refine .inl ⟨e, fun c hc => ?_⟩
        rcases List.mem_append.1 hc with hc | hc
        · exact hx c hc
        · exact h61 c hc
    · exact .inr ⟨a, b ++ (L.drop pos).take k, by rw [e]; simp, ha, em⟩
theorem one_take (h : pos < L.length) : (L.drop pos).take 1 = [L[pos]] := by
  rw [List.drop_eq_getElem_cons h]; rfl
/-- the first '=' of a line -/
theorem Ln.equal (h : Ln L pos first (-1) out x) (hp : pos < L.length) (hc : L[pos] = 61) : Ln L (pos + 1) first (pos : Int) out (x ++ [61]) := by
  have e : (L.drop pos).take 1 = [61] := by rw [one_take hp, hc]
  have hx : ∀ c ∈ x, c ≠ 61 := by
    rcases h.mid with ⟨-, hx⟩ | ⟨a, b, -, -, em⟩
    · exact hx
    · omega
  refine ⟨hp, by have := h.first_le; omega, by rw [take_more L pos 1 first h.first_le h.le, ← h.line, e], ?_, h.few, .inr ⟨x, [], rfl, hx, by rw [h.xlen]; have := h.first_le; omega⟩⟩
  rw [h.ans]
  conv => lhs; rw [List.drop_eq_getElem_cons hp, hc]
  rw [gtN_one (by decide)]
theorem Ln.zero (h : Ln L pos first mid out x) (hp : pos < L.length) (hc : L[pos] = 0) : gtN L [] [] = gtN (0 :: L.drop (pos + 1)) out x := by
  rw [h.ans]
  conv => lhs; rw [List.drop_eq_getElem_cons hp, hc]
theorem Ln.full (h : Ln L pos first mid out x) (hp : pos < L.length) (hc : L[pos] = 0) (h64 : out.length = 64) : gtN L [] [] = ([], 3) := by
  rw [h.zero hp hc, gtN_full h64]
theorem Ln.nowhere (h : Ln L pos first (-1) out x) (hp : pos < L.length) (hc : L[pos] = 0) (h64 : ¬ out.length = 64) : gtN L [] [] = ([], 11) := by
  have hx : ∀ c ∈ x, c ≠ 61 := by
    rcases h.mid with ⟨-, hx⟩ | ⟨a, b, -, -, em⟩
    · exact hx
    · omega
  rw [h.zero hp hc, gtN_bad h64 _ (lineP_none hx)]
theorem Ln.bad (h : Ln L pos first mid out x) (hp : pos < L.length) (hc : L[pos] = 0) (h64 : ¬ out.length = 64) {a b : List UInt8} (e : x = a ++ 61 :: b) (ha : ∀ c ∈ a, c ≠ 61) (hk : okL out (mkS a, mkS b) = false) : gtN L [] [] = ([], 11) := by
  rw [h.zero hp hc, gtN_bad h64 _ (by rw [e, lineP_some b ha, hk]; rfl)]
theorem Ln.next (h : Ln L pos first mid out x) (hp : pos < L.length) (hc : L[pos] = 0) (h64 : ¬ out.length = 64) {a b : List UInt8} (e : x = a ++ 61 :: b) (ha : ∀ c ∈ a, c ≠ 61) (hk : okL out (mkS a, mkS b) = true) :
    Ln L (pos + 1) (pos + 1) (-1) (out ++ [(mkS a, mkS b)]) [] :=
  ⟨hp, Nat.le_refl _, by rw [List.drop_of_length_le (by rw [List.length_take]; omega)], by rw [h.zero hp hc, gtN_ok h64 _ (by rw [e, lineP_some b ha, hk]; rfl)], by rw [List.length_append, List.length_singleton]; have := h.few; omega, .inl ⟨rfl, fun c h => by cases h⟩⟩
theorem Ln.done (h : Ln L pos first mid out x) (hp : ¬ pos < L.length) : gtN L [] [] = (out, 0) := by
  rw [h.ans, List.drop_of_length_le (by omega)]; rfl
/-- the pieces of a line as parts of the text -/
theorem Ln.parts (h : Ln L pos first mid out x) {a b : List UInt8} (e : x = a ++ 61 :: b) : first + a.length + 1 + b.length = pos ∧ (L.take (first + a.length)).drop first = a ∧ (L.take pos).drop (first + a.length + 1) = b := by
  have hl := h.xlen
  rw [e] at hl
  simp only [List.length_append, List.length_cons] at hl
  have hf := h.first_le
  have h1 : first + a.length + 1 + b.length = pos := by omega
  have e2 : (L.take pos).drop first = a ++ 61 :: b := by rw [← h.line, e]
  refine ⟨h1, ?_, ?_⟩
  · have : L.take (first + a.length) = (L.take pos).take (first + a.length) := by rw [List.take_take, Nat.min_eq_left (by omega)]
    rw [this, List.drop_take, Nat.add_sub_cancel_left, e2]
    simp
  · have : (L.take pos).drop (first + a.length + 1) = ((L.take pos).drop first).drop (a.length + 1) := by rw [List.drop_drop]; congr 1
    rw [this, e2]
    simp
end
theorem ext_list (s : ByteArray) (i j : Nat) : s.extract i j = mkS ((s.data.toList.take j).drop i) := by
  have h : (s.extract i j).data.toList = (s.data.toList.take j).drop i := by
    rw [ByteArray.data_extract, Array.toList_extract]
    simp [List.extract, List.drop_take]
  rw [← mkS_back (s.extract i j), h]
/-- while the characters of a text are gone through: the iterator, and the pairs so far -/
structure GtI (w wr : World) (s : ByteArray) (pos : Nat) (v : Value) (out : List Pr) : Prop where
  bel : Below w.heap.size w wr
  itr : wr.heap[w.heap.size]? = some (.stringIter s pos)
  own : ∃ q, GSl kPr wr v q out ∧ ∀ b, q = some b → w.heap.size < b
section
variable {w wr w2 : World} {s : ByteArray} {pos : Nat} {v : Value} {out : List Pr}
theorem GtI.start (w : World) (s : ByteArray) : GtI w (w.iter s 0) s 0 (.slice none 0 0) [] :=
  ⟨iter_below _ _ _, World.iter_heap w s 0, none, GSl.nil _ _, fun b h => by cases h⟩
theorem GtI.pos_eq (h : GtI w wr s pos v out) : iterPos w.heap.size wr = pos := by unfold iterPos; rw [h.itr]
theorem GtI.next (h : GtI w wr s pos v out) (hp : pos < s.size) (ty : TypeId) : ∃ w2, (Instr.next (.pointer (some ⟨w.heap.size, 0, none⟩)) true ty).run Tryd.prog wr = .ok (.tuple #[.bool true, .int .i64 pos, .int .i32 (Utf8.decode s pos).1]) w2 ∧ GtI w w2 s (pos + (Utf8.decode s pos).2) v out := by
  refine ⟨_, Go.Lib.run_next_any_at wr w.heap.size s pos ty h.itr hp, ?_, Go.Lib.iterAt_heap _ _ _ _ _ h.itr, ?_⟩
  · refine ⟨h.bel.os, h.bel.tape, h.bel.output, by simp [World.iterAt]; exact h.bel.size, fun k hk => ?_⟩
    rw [Go.Lib.iterAt_other _ _ _ _ _ (by omega)]
    exact h.bel.block k hk
  · obtain ⟨q, hq, hb⟩ := h.own
    exact ⟨q, hq.same (fun k hk => Go.Lib.iterAt_other _ _ _ _ _ (by have := hb k hk; omega)), hb⟩
theorem GtI.stop (h : GtI w wr s pos v out) (hp : ¬ pos < s.size) (ty : TypeId) : (Instr.next (.pointer (some ⟨w.heap.size, 0, none⟩)) true ty).run Tryd.prog wr = .ok (.tuple #[.bool false]) wr := Go.Lib.run_next_end_at wr w.heap.size s pos ty h.itr hp
theorem GtI.later (h : GtI w wr s pos v out) (hb : Below wr.heap.size wr w2) : GtI w w2 s pos v out := by
  refine ⟨below_then h.bel hb, ?_, ?_⟩
  · rw [hb.block _ (by have := (Array.getElem?_eq_some_iff.1 h.itr).1; omega)]; exact h.itr
  · obtain ⟨q, hq, hx⟩ := h.own
    exact ⟨q, hq.later hb, hx⟩
theorem GtI.at (h : GtI w wr s pos v out) : ∃ a c, v = .slice a out.length c ∧ out.length ≤ c ∧ c ≤ maxLen ∧ GAt kPr wr v out := by
  obtain ⟨q, h1, h2⟩ := h.own
  obtain ⟨a, c, e, h3, h4, -⟩ := h1.cell kPr_ok
  exact ⟨a, c, e, h3, h4, h1.at kPr_ok⟩
theorem GtI.pri (h : GtI w wr s pos v out) : PrI kPr w wr v out := by
  obtain ⟨q, h1, h2⟩ := h.own
  exact ⟨⟨q, h1, fun b hb => Nat.le_of_lt (h2 b hb)⟩, h.bel⟩
theorem GtI.more (h : GtI w wr s pos v out) (x : Pr) (hl : out.length ≤ 64) :
    ∃ v2 w2, (Builtin.append_ #[kPr.T, kPr.T] kPr.T #[v, .slice (some ⟨wr.heap.size, 0, Option.none⟩) 1 1]).run Tryd.prog (wr.alloc (.cells #[.string x.1, .string x.2] kPr.E)) = .ok v2 w2 ∧ GtI w w2 s pos v2 (out ++ [x]) := by
  have hlt := (Array.getElem?_eq_some_iff.1 h.itr).1
  obtain ⟨q, hq, hb⟩ := h.own
  have bn : Below wr.heap.size wr (wr.alloc (.cells #[.string x.1, .string x.2] kPr.E)) := (Below.refl _ _).alloc (Nat.le_refl _) _
  have h2 := h.later bn
  have hx : GAt kPr (wr.alloc (.cells #[.string x.1, .string x.2] kPr.E)) (.slice (some ⟨wr.heap.size, 0, Option.none⟩) 1 1) [x] := by
    refine ⟨_, 1, rfl, by simp, (fun h => by cases h), fun ad h j u hj => ?_⟩
    cases h
    rw [Addr.add_lit, blk_at (Blk.new' wr kPr.E [.string x.1, .string x.2]), Nat.zero_add]
    simpa [Kd.cs, kPr] using hj
  obtain ⟨v2, w2, q2, hr, ho, hg, hor⟩ := (hq.later bn).appendC kPr_ok hx (by simp; omega) (by simp [kPr]; omega) kPr.T
  refine ⟨v2, w2, hr, h2.bel.grown hg h2.bel.size (fun k hk => Nat.le_of_lt (hb k hk)), ?_, q2, ho, fun b hb2 => ?_⟩
  · rw [hg.block w.heap.size (by have := bn.size; omega) (fun e => by have := hb _ e.symm; omega)]; exact h2.itr
  · rcases hor b hb2 with e | e
    · exact hb b e
    · have := bn.size; omega
end
end Go.Proofs.YtligmiajlbjecaaDoor

/- text: Get. -/
namespace Go.Proofs.YtligmiajlbjecaaDoor
open Go.RowKit
set_option linter.unusedVariables false
set_option linter.unusedSimpArgs false
set_option maxRecDepth 8000

theorem step_skip18 {P : Program} {o : Oper} {a : Act} {w w' : World} {K : Act → World → Prop} {Q : Exit → Act → World → Prop} {E : Prop} {b : Bool} (hb : b = true) (h : (execOp a.eval o).run P w = .ok .skip w') (next : K (a.put o.dst undef) w') : if b = true then Oper.wp P o a w K Q else E := by
  rw [if_pos hb]
  unfold Oper.wp
  rw [h]
  exact next
theorem exec_slice18 {P : Program} {w : World} {a : Act} {o : Oper} {t : TypeId} {x : Operand} {lo hi : Option Operand} (ho : o.op = .slice t x lo hi none) {p u : Value} (hx : a.eval x = p) (h : (Instr.sliceAt t p (lo.map a.eval) (hi.map a.eval) none).run P w = .ok u w) : (execOp a.eval o).run P w = .ok (.value u) w := by
  simp [execOp, ho, hx, h, Result.andThen]
theorem slice_str (s : ByteArray) (i j : Nat) (hi : i ≤ j) (hj : j ≤ s.size) (w : World) : (Instr.sliceAt 9 (.string s) (some (.int .i64 (i : Int))) (some (.int .i64 (j : Int))) none).run Tryd.prog w = .ok (.string (s.extract i j)) w := by
  rw [run_sliceAt_string w _ _ _ _ _ Tryd.underlying9, run_slice_string w _ s .i64 .i64 (i : Int) (j : Int) Tryd.underlying9 (by omega) (by omega) (by omega)]
  simp
theorem size_pr18 : (Tryd.prog.info? 59).map (·.size) = some 2 := by kernel_rfl
set_option maxHeartbeats 16000000 in
theorem tGet_any (a : Option Addr) (c : Nat) (l : List (BitVec 8)) (w : World) (hle : l.length ≤ c) (hr : Row w a l) (hn : a = none → c = 0) (hlen : l.length ≤ 140737488351232) :
    Calls Tryd.prog 13 #[.slice a l.length c] w fun e w' => ∃ v, e = .returned (.tuple #[v, .int .i64 (gtR (us l)).2]) ∧ PrI kPr w w' v (gtR (us l)).1 := by
  obtain ⟨n, hnl⟩ : ∃ n, n = l.length := ⟨_, rfl⟩
  rw [← hnl] at hle hlen ⊢
  by_cases h0 : n = 0
  · have hz : l.length = 0 ∨ bt l (l.length - 1) = 0 := .inl (by omega)
    have HR : Hid (gtR (us l) = gtN (us l) [] []) := gtR_go hz
    subst h0
    obtain ⟨s, hs⟩ : ∃ s, s = str l := ⟨_, rfl⟩
    have hcv := hr.str 0 c hnl.symm
    rw [← hs] at hcv
    have hL0 : s.data.toList = us l := by rw [hs, str_us, mkS_list]
    have hsz : s.size = l.length := by have e := congrArg List.length hL0; rw [us_len] at e; rw [← e]; simp
    have hlen2 : l.length ≤ 140737488351232 := by omega
    have HL0 : Hid _ := And.intro hL0 (And.intro hsz hlen2)
    clear hL0 hr hs hz hn hlen hle hlen2 hnl
    have hrg := run_range_string (P := Tryd.prog) w 9 s Tryd.underlying9
    go_enter Tryd.func13, Tryd.ntmps13
    go_wp2
    go_step3
    go_wp2_with fail
    go_step3
    go_wp2_with fail
    go_loopw [4, 6, 7, 8] (fun lv fv mv ev wr => ∃ (pos first : Nat) (mid : Int) (out : List Pr) (x : List UInt8), fv = .int .i64 (first : Int) ∧ mv = .int .i64 mid ∧ ev = .int .i64 0 ∧ GtI w wr s pos lv out ∧ Ln (us l) pos first mid out x) (fun _ _ _ _ wr => s.size - iterPos w.heap.size wr)
    case atStart => exact ⟨0, 0, -1, [], [], rfl, rfl, rfl, GtI.start w s, Ln.start _⟩
    case round =>
      obtain ⟨pos, first, mid, out, x, rfl, rfl, rfl, hG, hL⟩ := hrel
      have hpe := hG.pos_eq
      by_cases hlt : pos < s.size
      · have hUL : (us l).length = s.size := by rw [us_len, HL0.out.2.1]
        have hltL : pos < (us l).length := by omega
        obtain ⟨w2, hn2, hG2⟩ := hG.next hlt 0
        obtain ⟨d1, d2, d3⟩ := dec_facts s pos hlt
        have hix : s[pos]'hlt = (us l)[pos]'hltL := by rw [← get_list hlt (by simp; omega)]; simp only [HL0.out.1]
        have hhi : ∀ j, pos ≤ j → (hj : j < (us l).length) → j < pos + (Utf8.decode s pos).2 → ¬ (s[pos]'hlt).toNat < 128 → 128 ≤ ((us l)[j]'hj).toNat := by
          intro j h1 hj h2 h3
          rcases d3 with ⟨d4, -⟩ | ⟨-, d5⟩
          · exact absurd d4 h3
          · have := d5 j h1 (by omega) h2
            have e : s[j]'(by omega) = (us l)[j]'hj := by rw [← get_list (by omega) (by simp; omega)]; simp only [HL0.out.1]
            rw [e] at this; exact this
        have hcl := hL.few
        obtain ⟨av, cv, rfl, hac, -, -⟩ := hG.at
        have hszI : (s.size : Int) ≤ 140737488351232 := by have := HL0.out.2; omega
        have hcase : (∃ K : Int, (((Utf8.decode s pos).1 : Nat) : Int) = K ∧ K ≠ 0 ∧ ((K = 61 ∧ ¬ mid = -1) ∨ K ≠ 61) ∧ Ln (us l) (pos + (Utf8.decode s pos).2) first mid out (x ++ ((us l).drop pos).take (Utf8.decode s pos).2)) ∨ ((us l)[pos]'hltL = 61 ∧ mid = -1 ∧ Utf8.decode s pos = (61, 1)) ∨ ((us l)[pos]'hltL = 0 ∧ Utf8.decode s pos = (0, 1)) := by
          rcases d3 with ⟨d4, d5⟩ | ⟨d4, d5⟩
          · rw [hix] at d4 d5
            by_cases k0 : (us l)[pos]'hltL = 0
            · exact .inr (.inr ⟨k0, by rw [d5, k0]; rfl⟩)
            · by_cases k1 : (us l)[pos]'hltL = 61 ∧ mid = -1
              · exact .inr (.inl ⟨k1.1, k1.2, by rw [d5, k1.1]; rfl⟩)
              · refine .inl ⟨_, rfl, ?_, ?_, ?_⟩
                · rw [d5]; intro e; exact k0 (UInt8.toNat_inj.1 (by show _ = 0; simp only at e; omega))
                · rw [d5]; by_cases k2 : (us l)[pos]'hltL = 61
                  · exact .inl ⟨by rw [k2]; rfl, fun e => k1 ⟨k2, e⟩⟩
                  · exact .inr (fun e => k2 (UInt8.toNat_inj.1 (by show _ = 61; simp only at e; omega)))
                · rw [d5]; exact hL.over 1 (by omega) (fun c hc => by rw [one_take hltL, List.mem_singleton] at hc; rw [hc]; exact k0) (by
                    by_cases k2 : mid = -1
                    · exact .inr (fun c hc => by rw [one_take hltL, List.mem_singleton] at hc; rw [hc]; exact fun e => k1 ⟨e, k2⟩)
                    · exact .inl k2)
          · refine .inl ⟨_, rfl, by omega, .inr (by omega), hL.over _ (by omega) ?_ (.inr ?_)⟩
            · intro c hc e
              obtain ⟨i, hi, hic⟩ := List.getElem_of_mem hc
              rw [List.getElem_take, List.getElem_drop] at hic
              have hi2 : i < (Utf8.decode s pos).2 := by rw [List.length_take] at hi; omega
              have h128 : ¬ (s[pos]'hlt).toNat < 128 := fun h => by have := decode_ascii s pos hlt h; rw [this] at d4; simp only at d4; omega
              have := hhi (pos + i) (by omega) (by omega) (by omega) h128
              rw [hic, e] at this
              exact absurd this (by decide)
            · intro c hc e
              obtain ⟨i, hi, hic⟩ := List.getElem_of_mem hc
              rw [List.getElem_take, List.getElem_drop] at hic
              have hi2 : i < (Utf8.decode s pos).2 := by rw [List.length_take] at hi; omega
              have h128 : ¬ (s[pos]'hlt).toNat < 128 := fun h => by have := decode_ascii s pos hlt h; rw [this] at d4; simp only at d4; omega
              have := hhi (pos + i) (by omega) (by omega) (by omega) h128
              rw [hic, e] at this
              exact absurd this (by decide)
        clear hhi d3 hix
        rcases hcase with ⟨K, hK, hK0, hK61, hLn⟩ | ⟨hc, hm, hd⟩ | ⟨hc, hd⟩
        · have F : Hid _ := And.intro hG2 (And.intro hLn (And.intro hpe (show pos < pos + (Utf8.decode s pos).2 by omega)))
          rw [hK] at hn2
          have z0 : (K == 0) = false := by simpa using hK0
          clear hG hL hpe hltL hUL hcl hac hG2 hLn hK hK0 d1
          rcases hK61 with ⟨rfl, hm⟩ | hK61
          · have zm : (mid == -1) = false := by simpa using hm
            clear hm
            go_wp2
            go_roundw
            case rel => exact ⟨_, _, _, _, _, rfl, rfl, rfl, F.out.1, F.out.2.1⟩
            case measure => have e1 := F.out.1.pos_eq; have e2 := F.out.2.2.1; have e3 := F.out.2.2.2; rw [e1, e2]; omega
          · have z6 : (K == 61) = false := by simpa using hK61
            clear hK61
            go_wp2
            go_roundw
            case rel => exact ⟨_, _, _, _, _, rfl, rfl, rfl, F.out.1, F.out.2.1⟩
            case measure => have e1 := F.out.1.pos_eq; have e2 := F.out.2.2.1; have e3 := F.out.2.2.2; rw [e1, e2]; omega
        · subst hm
          have hG3 := hG2
          rw [hd] at hG3 hn2 d2
          have F : Hid _ := And.intro hG3 (And.intro (hL.equal hltL hc) (And.intro hpe (Nat.lt_succ_self pos)))
          clear hG hL hpe hltL hUL hcl hac hG2 hG3 hc hd d1
          go_wp2
          go_roundw
          case rel => exact ⟨_, _, _, _, _, rfl, rfl, rfl, F.out.1, F.out.2.1⟩
          case measure => have e1 := F.out.1.pos_eq; have e2 := F.out.2.2.1; have e3 := F.out.2.2.2; rw [e1, e2]; omega
        · have hG3 := hG2
          rw [hd] at hG3 hn2 d2
          by_cases h64 : out.length = 64
          · have F : Hid _ := And.intro (HR.out.trans (hL.full hltL hc h64)) hG3.bel
            have z64 : ((out.length : Int) == 64) = true := by simp; omega
            clear hG hL hpe hltL hUL hcl hac hG2 hG3 hc hd d1 h64
            go_wp2
            (try rw [Exit.noGoto_ret])
            refine bodyPost_ret (v := .tuple #[.slice none 0 0, .int .i64 3]) (by first | rfl | simp [results, Tryd.results13, go_sem]) rfl ?_
            exact ⟨_, by rw [F.out.1], by rw [F.out.1]; exact PrI.none F.out.2⟩
          · have z64 : ((out.length : Int) == 64) = false := by simp; omega
            by_cases hm : mid = -1
            · subst hm
              have F : Hid _ := And.intro (HR.out.trans (hL.nowhere hltL hc h64)) hG3.bel
              clear hG hL hpe hltL hUL hcl hac hG2 hG3 hc hd d1 h64
              go_wp2
              (try rw [Exit.noGoto_ret])
              refine bodyPost_ret (v := .tuple #[.slice none 0 0, .int .i64 11]) (by first | rfl | simp [results, Tryd.results13, go_sem]) rfl ?_
              exact ⟨_, by rw [F.out.1], by rw [F.out.1]; exact PrI.none F.out.2⟩
            · have zm : (mid == -1) = false := by simpa using hm
              obtain ⟨ak, bv, hx, ha, rfl⟩ : ∃ a b, x = a ++ 61 :: b ∧ (∀ c ∈ a, c ≠ 61) ∧ mid = ((first + a.length : Nat) : Int) := by
                rcases hL.mid with ⟨e, -⟩ | h
                · exact absurd e hm
                · exact h
              obtain ⟨p1, p2, p3⟩ := hL.parts hx
              obtain ⟨xk, hxk⟩ : ∃ xk, xk = mkS ak := ⟨_, rfl⟩
              obtain ⟨xv, hxv⟩ : ∃ xv, xv = mkS bv := ⟨_, rfl⟩
              obtain ⟨m, hmn⟩ : ∃ m, m = first + ak.length := ⟨_, rfl⟩
              rw [← hmn] at zm p1 p2 p3 ⊢
              have e1 : s.extract first m = xk := by rw [ext_list, HL0.out.1, p2, hxk]
              have e2 : s.extract (m + 1) pos = xv := by rw [ext_list, HL0.out.1, p3, hxv]
              have s1 : ∀ W, (Instr.sliceAt 9 (.string s) (some (.int .i64 (first : Int))) (some (.int .i64 (m : Int))) none).run Tryd.prog W = .ok (.string xk) W := fun W => by rw [slice_str s first m (by omega) (by omega), e1]
              have s2 : ∀ W, (Instr.sliceAt 9 (.string s) (some (.int .i64 ((m : Int) + 1))) (some (.int .i64 (pos : Int))) none).run Tryd.prog W = .ok (.string xv) W := fun W => by have := slice_str s (m + 1) pos (by omega) (by omega) W; rw [e2] at this; exact this
              have w1 : IntKind.i64.wrap ((m : Int) + 1) = (m : Int) + 1 := by rw [IntKind.wrap_i64]; omega
              have HB : Hid (okL out (xk, xv) = false → gtR (us l) = ([], 11)) := (fun h => HR.out.trans (hL.bad hltL hc h64 hx ha (by rw [← hxk, ← hxv]; exact h)) : okL out (xk, xv) = false → _)
              have HO : Hid (okL out (xk, xv) = true → Ln (us l) (pos + 1) (pos + 1) (-1) (out ++ [(xk, xv)]) []) := (fun h => by have := hL.next hltL hc h64 hx ha (by rw [← hxk, ← hxv]; exact h); rw [← hxk, ← hxv] at this; exact this : okL out (xk, xv) = true → _)
              have HQ : Hid _ := And.intro hG3 (And.intro hpe hcl)
              have S12 : Hid _ := And.intro s1 s2
              have hokd : okL out (xk, xv) = (canP (xk, xv) && !(out.any fun q => decide (q.1 = xk))) := rfl
              have hcpd : canP (xk, xv) = (keyB18 xk.data.toList && valB18 xv.data.toList) := rfl
              clear s1 s2 e1 e2 p1 p2 p3 hx ha hL hG hG2 hG3 hpe hltL hUL hcl hc hd d1 h64 hm hxk hxv hmn
              have N0 := (Blk.new' w2 59 [.string ⟨#[]⟩, .string ⟨#[]⟩]).laterB (Below.refl _ _).drew
              have b0 : Below w2.heap.size w2 ((w2.alloc (.cells #[.string ⟨#[]⟩, .string ⟨#[]⟩] 59)).drew) := ((Below.refl _ _).alloc (Nat.le_refl _) _).drew
              obtain ⟨w3, hw3⟩ : ∃ w3, w3 = (w2.alloc (.cells #[.string ⟨#[]⟩, .string ⟨#[]⟩] 59)).drew := ⟨_, rfl⟩
              rw [← hw3] at N0 b0
              obtain ⟨w4, st, N4, g4⟩ := storeW (T := 59) (vs := [.string xk, .string xv]) size_pr18 N0 rfl (fun u hu => by simp at hu; rcases hu with rfl | rfl <;> rfl)
              have b4 : Below w2.heap.size w2 w4 := b0.grown g4 b0.size (fun k e => by cases e; exact Nat.le_refl _)
              have HW : Hid _ := And.intro b0 (And.intro b4 (And.intro N4 st))
              go_upto_region 16 with fail
              refine wp_region_held_drew (S := fun W => Below w2.heap.size w2 W) (by kernel_rfl) (by exact (Below.refl _ _).drew) (fun hS => ?_)
              refine any_take (i := 0) (v := ?_) rfl (by kernel_rfl) (by kernel_rfl) (by kernel_rfl) (by exact fun _ _ _ h => h) (by rfl) ?_ hS ?_
              rotate_left
              · ((intro w hSw; skip; go_simp) <;> with_reducible rfl)
              (try simp only [Act.put, List.setIfInBounds_toArray, List.set_cons_zero, List.set_cons_succ])
              refine any_take (i := 1) (v := ?_) rfl (by kernel_rfl) (by kernel_rfl) (by kernel_rfl) (by exact fun _ _ _ h => h) (by rfl) ?_ hS ?_
              rotate_left
              · ((intro w hSw; skip; go_simp) <;> with_reducible rfl)
              (try simp only [Act.put, List.setIfInBounds_toArray, List.set_cons_zero, List.set_cons_succ])
              refine any_take (i := 2) (v := ?_) rfl (by kernel_rfl) (by kernel_rfl) (by kernel_rfl) (by exact fun _ _ _ h => h) (by rfl) ?_ hS ?_
              rotate_left
              · ((intro w hSw; skip; go_simp) <;> with_reducible rfl)
              (try simp only [Act.put, List.setIfInBounds_toArray, List.set_cons_zero, List.set_cons_succ])
              refine any_take (i := 3) (v := .string xk) rfl (by kernel_rfl) (by kernel_rfl) (by kernel_rfl) (by exact fun _ _ _ h => h) (by rfl) ?_ hS ?_
              · intro W hSW; exact exec_slice18 rfl rfl (S12.out.1 W)
              (try simp only [Act.put, List.setIfInBounds_toArray, List.set_cons_zero, List.set_cons_succ])
              refine any_take (i := 4) (v := ?_) rfl (by kernel_rfl) (by kernel_rfl) (by kernel_rfl) (by exact fun _ _ _ h => h) (by rfl) ?_ hS ?_
              rotate_left
              · ((intro w hSw; skip; go_simp) <;> with_reducible rfl)
              (try simp only [Act.put, List.setIfInBounds_toArray, List.set_cons_zero, List.set_cons_succ])
              refine any_take (i := 5) (v := ?_) rfl (by kernel_rfl) (by kernel_rfl) (by kernel_rfl) (by exact fun _ _ _ h => h) (by rfl) ?_ hS ?_
              rotate_left
              · ((intro w hSw; skip; go_simp) <;> with_reducible rfl)
              (try simp only [Act.put, List.setIfInBounds_toArray, List.set_cons_zero, List.set_cons_succ])
              refine any_take (i := 6) (v := ?_) rfl (by kernel_rfl) (by kernel_rfl) (by kernel_rfl) (by exact fun _ _ _ h => h) (by rfl) ?_ hS ?_
              rotate_left
              · ((intro w hSw; skip; go_simp) <;> with_reducible rfl)
              (try simp only [Act.put, List.setIfInBounds_toArray, List.set_cons_zero, List.set_cons_succ])
              refine any_take (i := 7) (v := ?_) rfl (by kernel_rfl) (by kernel_rfl) (by kernel_rfl) (by exact fun _ _ _ h => h) (by rfl) ?_ hS ?_
              rotate_left
              · ((intro w hSw; skip; go_simp) <;> with_reducible rfl)
              (try simp only [Act.put, List.setIfInBounds_toArray, List.set_cons_zero, List.set_cons_succ])
              refine any_take (i := 8) (v := .string xv) rfl (by kernel_rfl) (by kernel_rfl) (by kernel_rfl) (by exact fun _ _ _ h => h) (by rfl) ?_ hS ?_
              · intro W hSW; exact exec_slice18 rfl rfl (S12.out.2 W)
              (try simp only [Act.put, List.setIfInBounds_toArray, List.set_cons_zero, List.set_cons_succ])
              refine any_take (i := 9) (v := ?_) rfl (by kernel_rfl) (by kernel_rfl) (by kernel_rfl) (by exact fun _ _ _ h => h) (by rfl) ?_ hS ?_
              rotate_left
              · ((intro w hSw; skip; go_simp) <;> with_reducible rfl)
              (try simp only [Act.put, List.setIfInBounds_toArray, List.set_cons_zero, List.set_cons_succ])
              refine any_one (i := 10) rfl (by kernel_rfl) (fun K hK => ?_)
              go_simp
              rw [← hw3]
              refine hK.out _ _ (HW.out.1) ?_
              clear hK K hS
              have hS := HW.out.1
              refine any_one (i := 11) rfl (by kernel_rfl) (fun K hK => ?_)
              refine step_skip18 (by rfl) (exec_store rfl rfl rfl st) ?_
              refine hK.out _ _ (HW.out.2.1) ?_
              clear hK K hS
              refine wpAnyH_done (by kernel_rfl) ?_ _
              have G4 := HQ.out.1.later b4
              have y0 := ck_at N4 0
              have y1 := ck_at N4 1
              simp only [List.getElem?_cons_zero, List.getElem?_cons_succ] at y0 y1
              obtain ⟨av2, cv2, ee, -, -, hat⟩ := G4.at
              cases ee
              have H4 : Hid _ := And.intro G4 (And.intro hat N4)
              clear G4 hat N4 N0 b0 g4 st b4 hw3 HW
              have HC : Hid _ := tCanBe_any xk xv w4
              have hcn : canP (xk, xv) = true ∨ canP (xk, xv) = false := by cases canP (xk, xv) <;> simp
              rw [← hcpd] at HC
              clear hcpd
              rcases hcn with hcn | hcn
              · rw [hcn] at HC hokd
                clear hcn
                go_wp2_with fail
                refine (Calls.mono HC.out) ?_
                rintro e w5 ⟨rfl, b5⟩
                clear HC
                have y2 := ck_later y0 b5
                have G5 := H4.out.1.later b5
                have HT : Hid _ := tStands_any av cv out xk w5 (gat_later b5 H4.out.2.1) (by have := HQ.out.2.2; omega)
                have N5 := H4.out.2.2.laterB b5
                have H5 : Hid _ := And.intro G5 N5
                clear G5 N5 H4 y0 y1 b5
                generalize han : (out.any fun q => decide (q.1 = xk)) = an at *
                cases an
                · have ok : okL out (xk, xv) = true := hokd.trans rfl
                  have hLn := HO.out ok
                  clear ok hokd HB HO han
                  go_wp2_with fail
                  refine (Calls.mono HT.out) ?_
                  rintro e w6 ⟨rfl, b6⟩
                  clear HT
                  have G6 := H5.out.1.later b6
                  have N6 := H5.out.2.laterB b6
                  have y0 := ck_at N6 0
                  have y1 := ck_at N6 1
                  simp only [List.getElem?_cons_zero, List.getElem?_cons_succ] at y0 y1
                  clear y2
                  obtain ⟨v7, w7, hap, G7⟩ := G6.more (xk, xv) HQ.out.2.2
                  obtain ⟨a7, c7, ee7, -, -, -⟩ := G7.at
                  subst ee7
                  have ll : (out ++ [(xk, xv)]).length = out.length + 1 := by simp
                  rw [ll] at G7 hap
                  clear ll
                  have F : Hid _ := And.intro G7 (And.intro hLn (And.intro HQ.out.2.1 (Nat.lt_succ_self pos)))
                  have w8 : IntKind.i64.wrap ((pos : Int) + 1) = (pos : Int) + 1 := by rw [IntKind.wrap_i64]; omega
                  clear G6 N6 G7 hLn H5 HQ b6
                  go_wp2_with (at_builtin; refine wpList_run_app rfl _ _ 28 28 rfl _ _ rfl rfl hap ?_)
                  go_wp2
                  go_roundw
                  case rel => exact ⟨_, _, _, _, _, rfl, rfl, rfl, F.out.1, F.out.2.1⟩
                  case measure => have e1 := F.out.1.pos_eq; have e2 := F.out.2.2.1; have e3 := F.out.2.2.2; rw [e1, e2]; omega
                · have ok : okL out (xk, xv) = false := hokd.trans rfl
                  have F : Hid _ := And.intro (HB.out ok) H5.out.1.bel
                  clear ok hokd HB HO han H5 HQ
                  go_wp2_with fail
                  refine (Calls.mono HT.out) ?_
                  rintro e w6 ⟨rfl, b6⟩
                  clear HT
                  have F2 : Hid _ := below_then F.out.2 b6
                  clear b6 y2
                  go_wp2
                  (try rw [Exit.noGoto_ret])
                  refine bodyPost_ret (v := .tuple #[.slice none 0 0, .int .i64 11]) (by first | rfl | simp [results, Tryd.results13, go_sem]) rfl ?_
                  exact ⟨_, by rw [F.out.1], by rw [F.out.1]; exact PrI.none F2.out⟩
              · rw [hcn] at HC hokd
                have ok : okL out (xk, xv) = false := hokd.trans rfl
                have F : Hid _ := And.intro (HB.out ok) H4.out.1.bel
                clear ok hokd HB HO hcn H4 HQ
                go_wp2_with fail
                refine (Calls.mono HC.out) ?_
                rintro e w5 ⟨rfl, b5⟩
                clear HC
                have F2 : Hid _ := below_then F.out.2 b5
                clear b5 y0 y1
                go_wp2
                (try rw [Exit.noGoto_ret])
                refine bodyPost_ret (v := .tuple #[.slice none 0 0, .int .i64 11]) (by first | rfl | simp [results, Tryd.results13, go_sem]) rfl ?_
                exact ⟨_, by rw [F.out.1], by rw [F.out.1]; exact PrI.none F2.out⟩
      · have hn2 := hG.stop hlt 0
        have F : Hid _ := And.intro (HR.out.trans (hL.done (by rw [us_len, ← HL0.out.2.1]; exact hlt))) hG.pri
        obtain ⟨av, cv, rfl, -, -, -⟩ := hG.at
        clear hG hL hpe
        go_wp2
        (try rw [Exit.noGoto_ret])
        refine bodyPost_ret (v := .tuple #[.slice av out.length cv, .int .i64 0]) (by first | rfl | simp [results, Tryd.results13, go_sem]) rfl ?_
        exact ⟨_, by rw [F.out.1], by rw [F.out.1]; exact F.out.2⟩
  · rcases hr with rfl | ⟨b, off, rfl, hc⟩
    · exact absurd (hnl.trans rfl) h0
    have hcl := hc (l.length - 1) (by omega)
    have hr : Row w (some ⟨b, off, none⟩) l := .inr ⟨b, off, rfl, hc⟩
    clear hc
    rw [← hnl] at hcl
    have q9 : 0 < n := by omega
    have w0 : IntKind.i64.wrap ((n : Int) - 1) = ((n - 1 : Nat) : Int) := by rw [IntKind.wrap_i64]; omega
    have q2 : n - 1 < n := by omega
    by_cases hzb : bt l (n - 1) = 0
    · have hz : l.length = 0 ∨ bt l (l.length - 1) = 0 := .inr (by rw [← hnl]; exact hzb)
      rw [hzb] at hcl
      clear hzb h0
      have HR : Hid (gtR (us l) = gtN (us l) [] []) := gtR_go hz
      obtain ⟨s, hs⟩ : ∃ s, s = str l := ⟨_, rfl⟩
      have hcv := hr.str n c hnl.symm
      rw [← hs] at hcv
      have hL0 : s.data.toList = us l := by rw [hs, str_us, mkS_list]
      have hsz : s.size = l.length := by have e := congrArg List.length hL0; rw [us_len] at e; rw [← e]; simp
      have hlen2 : l.length ≤ 140737488351232 := by omega
      have HL0 : Hid _ := And.intro hL0 (And.intro hsz hlen2)
      clear hL0 hr hs hz hn hlen hle hlen2 hnl
      have hrg := run_range_string (P := Tryd.prog) w 9 s Tryd.underlying9
      go_enter Tryd.func13, Tryd.ntmps13
      go_wp2
      go_step3
      go_wp2_with fail
      go_step3
      go_wp2_with fail
      go_loopw [4, 6, 7, 8] (fun lv fv mv ev wr => ∃ (pos first : Nat) (mid : Int) (out : List Pr) (x : List UInt8), fv = .int .i64 (first : Int) ∧ mv = .int .i64 mid ∧ ev = .int .i64 0 ∧ GtI w wr s pos lv out ∧ Ln (us l) pos first mid out x) (fun _ _ _ _ wr => s.size - iterPos w.heap.size wr)
      case atStart => exact ⟨0, 0, -1, [], [], rfl, rfl, rfl, GtI.start w s, Ln.start _⟩
      case round =>
        obtain ⟨pos, first, mid, out, x, rfl, rfl, rfl, hG, hL⟩ := hrel
        have hpe := hG.pos_eq
        by_cases hlt : pos < s.size
        · have hUL : (us l).length = s.size := by rw [us_len, HL0.out.2.1]
          have hltL : pos < (us l).length := by omega
          obtain ⟨w2, hn2, hG2⟩ := hG.next hlt 0
          obtain ⟨d1, d2, d3⟩ := dec_facts s pos hlt
          have hix : s[pos]'hlt = (us l)[pos]'hltL := by rw [← get_list hlt (by simp; omega)]; simp only [HL0.out.1]
          have hhi : ∀ j, pos ≤ j → (hj : j < (us l).length) → j < pos + (Utf8.decode s pos).2 → ¬ (s[pos]'hlt).toNat < 128 → 128 ≤ ((us l)[j]'hj).toNat := by
            intro j h1 hj h2 h3
            rcases d3 with ⟨d4, -⟩ | ⟨-, d5⟩
            · exact absurd d4 h3
            · have := d5 j h1 (by omega) h2
              have e : s[j]'(by omega) = (us l)[j]'hj := by rw [← get_list (by omega) (by simp; omega)]; simp only [HL0.out.1]
              rw [e] at this; exact this
          have hcl := hL.few
          obtain ⟨av, cv, rfl, hac, -, -⟩ := hG.at
          have hszI : (s.size : Int) ≤ 140737488351232 := by have := HL0.out.2; omega
          have hcase : (∃ K : Int, (((Utf8.decode s pos).1 : Nat) : Int) = K ∧ K ≠ 0 ∧ ((K = 61 ∧ ¬ mid = -1) ∨ K ≠ 61) ∧ Ln (us l) (pos + (Utf8.decode s pos).2) first mid out (x ++ ((us l).drop pos).take (Utf8.decode s pos).2)) ∨ ((us l)[pos]'hltL = 61 ∧ mid = -1 ∧ Utf8.decode s pos = (61, 1)) ∨ ((us l)[pos]'hltL = 0 ∧ Utf8.decode s pos = (0, 1)) := by
            rcases d3 with ⟨d4, d5⟩ | ⟨d4, d5⟩
            · rw [hix] at d4 d5
              by_cases k0 : (us l)[pos]'hltL = 0
              · exact .inr (.inr ⟨k0, by rw [d5, k0]; rfl⟩)
              · by_cases k1 : (us l)[pos]'hltL = 61 ∧ mid = -1
                · exact .inr (.inl ⟨k1.1, k1.2, by rw [d5, k1.1]; rfl⟩)
                · refine .inl ⟨_, rfl, ?_, ?_, ?_⟩
                  · rw [d5]; intro e; exact k0 (UInt8.toNat_inj.1 (by show _ = 0; simp only at e; omega))
                  · rw [d5]; by_cases k2 : (us l)[pos]'hltL = 61
                    · exact .inl ⟨by rw [k2]; rfl, fun e => k1 ⟨k2, e⟩⟩
                    · exact .inr (fun e => k2 (UInt8.toNat_inj.1 (by show _ = 61; simp only at e; omega)))
                  · rw [d5]; exact hL.over 1 (by omega) (fun c hc => by rw [one_take hltL, List.mem_singleton] at hc; rw [hc]; exact k0) (by
                      by_cases k2 : mid = -1
                      · exact .inr (fun c hc => by rw [one_take hltL, List.mem_singleton] at hc; rw [hc]; exact fun e => k1 ⟨e, k2⟩)
                      · exact .inl k2)
            · refine .inl ⟨_, rfl, by omega, .inr (by omega), hL.over _ (by omega) ?_ (.inr ?_)⟩
              · intro c hc e
                obtain ⟨i, hi, hic⟩ := List.getElem_of_mem hc
                rw [List.getElem_take, List.getElem_drop] at hic
                have hi2 : i < (Utf8.decode s pos).2 := by rw [List.length_take] at hi; omega
                have h128 : ¬ (s[pos]'hlt).toNat < 128 := fun h => by have := decode_ascii s pos hlt h; rw [this] at d4; simp only at d4; omega
                have := hhi (pos + i) (by omega) (by omega) (by omega) h128
                rw [hic, e] at this
                exact absurd this (by decide)
              · intro c hc e
                obtain ⟨i, hi, hic⟩ := List.getElem_of_mem hc
                rw [List.getElem_take, List.getElem_drop] at hic
                have hi2 : i < (Utf8.decode s pos).2 := by rw [List.length_take] at hi; omega
                have h128 : ¬ (s[pos]'hlt).toNat < 128 := fun h => by have := decode_ascii s pos hlt h; rw [this] at d4; simp only at d4; omega
                have := hhi (pos + i) (by omega) (by omega) (by omega) h128
                rw [hic, e] at this
                exact absurd this (by decide)
          clear hhi d3 hix
          rcases hcase with ⟨K, hK, hK0, hK61, hLn⟩ | ⟨hc, hm, hd⟩ | ⟨hc, hd⟩
          · have F : Hid _ := And.intro hG2 (And.intro hLn (And.intro hpe (show pos < pos + (Utf8.decode s pos).2 by omega)))
            rw [hK] at hn2
            have z0 : (K == 0) = false := by simpa using hK0
            clear hG hL hpe hltL hUL hcl hac hG2 hLn hK hK0 d1
            rcases hK61 with ⟨rfl, hm⟩ | hK61
            · have zm : (mid == -1) = false := by simpa using hm
              clear hm
              go_wp2
              go_roundw
              case rel => exact ⟨_, _, _, _, _, rfl, rfl, rfl, F.out.1, F.out.2.1⟩
              case measure => have e1 := F.out.1.pos_eq; have e2 := F.out.2.2.1; have e3 := F.out.2.2.2; rw [e1, e2]; omega
            · have z6 : (K == 61) = false := by simpa using hK61
              clear hK61
              go_wp2
              go_roundw
              case rel => exact ⟨_, _, _, _, _, rfl, rfl, rfl, F.out.1, F.out.2.1⟩
              case measure => have e1 := F.out.1.pos_eq; have e2 := F.out.2.2.1; have e3 := F.out.2.2.2; rw [e1, e2]; omega
          · subst hm
            have hG3 := hG2
            rw [hd] at hG3 hn2 d2
            have F : Hid _ := And.intro hG3 (And.intro (hL.equal hltL hc) (And.intro hpe (Nat.lt_succ_self pos)))
            clear hG hL hpe hltL hUL hcl hac hG2 hG3 hc hd d1
            go_wp2
            go_roundw
            case rel => exact ⟨_, _, _, _, _, rfl, rfl, rfl, F.out.1, F.out.2.1⟩
            case measure => have e1 := F.out.1.pos_eq; have e2 := F.out.2.2.1; have e3 := F.out.2.2.2; rw [e1, e2]; omega
          · have hG3 := hG2
            rw [hd] at hG3 hn2 d2
            by_cases h64 : out.length = 64
            · have F : Hid _ := And.intro (HR.out.trans (hL.full hltL hc h64)) hG3.bel
              have z64 : ((out.length : Int) == 64) = true := by simp; omega
              clear hG hL hpe hltL hUL hcl hac hG2 hG3 hc hd d1 h64
              go_wp2
              (try rw [Exit.noGoto_ret])
              refine bodyPost_ret (v := .tuple #[.slice none 0 0, .int .i64 3]) (by first | rfl | simp [results, Tryd.results13, go_sem]) rfl ?_
              exact ⟨_, by rw [F.out.1], by rw [F.out.1]; exact PrI.none F.out.2⟩
            · have z64 : ((out.length : Int) == 64) = false := by simp; omega
              by_cases hm : mid = -1
              · subst hm
                have F : Hid _ := And.intro (HR.out.trans (hL.nowhere hltL hc h64)) hG3.bel
                clear hG hL hpe hltL hUL hcl hac hG2 hG3 hc hd d1 h64
                go_wp2
                (try rw [Exit.noGoto_ret])
                refine bodyPost_ret (v := .tuple #[.slice none 0 0, .int .i64 11]) (by first | rfl | simp [results, Tryd.results13, go_sem]) rfl ?_
                exact ⟨_, by rw [F.out.1], by rw [F.out.1]; exact PrI.none F.out.2⟩
              · have zm : (mid == -1) = false := by simpa using hm
                obtain ⟨ak, bv, hx, ha, rfl⟩ : ∃ a b, x = a ++ 61 :: b ∧ (∀ c ∈ a, c ≠ 61) ∧ mid = ((first + a.length : Nat) : Int) := by
                  rcases hL.mid with ⟨e, -⟩ | h
                  · exact absurd e hm
                  · exact h
                obtain ⟨p1, p2, p3⟩ := hL.parts hx
                obtain ⟨xk, hxk⟩ : ∃ xk, xk = mkS ak := ⟨_, rfl⟩
                obtain ⟨xv, hxv⟩ : ∃ xv, xv = mkS bv := ⟨_, rfl⟩
                obtain ⟨m, hmn⟩ : ∃ m, m = first + ak.length := ⟨_, rfl⟩
                rw [← hmn] at zm p1 p2 p3 ⊢
                have e1 : s.extract first m = xk := by rw [ext_list, HL0.out.1, p2, hxk]
                have e2 : s.extract (m + 1) pos = xv := by rw [ext_list, HL0.out.1, p3, hxv]
                have s1 : ∀ W, (Instr.sliceAt 9 (.string s) (some (.int .i64 (first : Int))) (some (.int .i64 (m : Int))) none).run Tryd.prog W = .ok (.string xk) W := fun W => by rw [slice_str s first m (by omega) (by omega), e1]
                have s2 : ∀ W, (Instr.sliceAt 9 (.string s) (some (.int .i64 ((m : Int) + 1))) (some (.int .i64 (pos : Int))) none).run Tryd.prog W = .ok (.string xv) W := fun W => by have := slice_str s (m + 1) pos (by omega) (by omega) W; rw [e2] at this; exact this
                have w1 : IntKind.i64.wrap ((m : Int) + 1) = (m : Int) + 1 := by rw [IntKind.wrap_i64]; omega
                have HB : Hid (okL out (xk, xv) = false → gtR (us l) = ([], 11)) := (fun h => HR.out.trans (hL.bad hltL hc h64 hx ha (by rw [← hxk, ← hxv]; exact h)) : okL out (xk, xv) = false → _)
                have HO : Hid (okL out (xk, xv) = true → Ln (us l) (pos + 1) (pos + 1) (-1) (out ++ [(xk, xv)]) []) := (fun h => by have := hL.next hltL hc h64 hx ha (by rw [← hxk, ← hxv]; exact h); rw [← hxk, ← hxv] at this; exact this : okL out (xk, xv) = true → _)
                have HQ : Hid _ := And.intro hG3 (And.intro hpe hcl)
                have S12 : Hid _ := And.intro s1 s2
                have hokd : okL out (xk, xv) = (canP (xk, xv) && !(out.any fun q => decide (q.1 = xk))) := rfl
                have hcpd : canP (xk, xv) = (keyB18 xk.data.toList && valB18 xv.data.toList) := rfl
                clear s1 s2 e1 e2 p1 p2 p3 hx ha hL hG hG2 hG3 hpe hltL hUL hcl hc hd d1 h64 hm hxk hxv hmn
                have N0 := (Blk.new' w2 59 [.string ⟨#[]⟩, .string ⟨#[]⟩]).laterB (Below.refl _ _).drew
                have b0 : Below w2.heap.size w2 ((w2.alloc (.cells #[.string ⟨#[]⟩, .string ⟨#[]⟩] 59)).drew) := ((Below.refl _ _).alloc (Nat.le_refl _) _).drew
                obtain ⟨w3, hw3⟩ : ∃ w3, w3 = (w2.alloc (.cells #[.string ⟨#[]⟩, .string ⟨#[]⟩] 59)).drew := ⟨_, rfl⟩
                rw [← hw3] at N0 b0
                obtain ⟨w4, st, N4, g4⟩ := storeW (T := 59) (vs := [.string xk, .string xv]) size_pr18 N0 rfl (fun u hu => by simp at hu; rcases hu with rfl | rfl <;> rfl)
                have b4 : Below w2.heap.size w2 w4 := b0.grown g4 b0.size (fun k e => by cases e; exact Nat.le_refl _)
                have HW : Hid _ := And.intro b0 (And.intro b4 (And.intro N4 st))
                go_upto_region 16 with fail
                refine wp_region_held_drew (S := fun W => Below w2.heap.size w2 W) (by kernel_rfl) (by exact (Below.refl _ _).drew) (fun hS => ?_)
                refine any_take (i := 0) (v := ?_) rfl (by kernel_rfl) (by kernel_rfl) (by kernel_rfl) (by exact fun _ _ _ h => h) (by rfl) ?_ hS ?_
                rotate_left
                · ((intro w hSw; skip; go_simp) <;> with_reducible rfl)
                (try simp only [Act.put, List.setIfInBounds_toArray, List.set_cons_zero, List.set_cons_succ])
                refine any_take (i := 1) (v := ?_) rfl (by kernel_rfl) (by kernel_rfl) (by kernel_rfl) (by exact fun _ _ _ h => h) (by rfl) ?_ hS ?_
                rotate_left
                · ((intro w hSw; skip; go_simp) <;> with_reducible rfl)
                (try simp only [Act.put, List.setIfInBounds_toArray, List.set_cons_zero, List.set_cons_succ])
                refine any_take (i := 2) (v := ?_) rfl (by kernel_rfl) (by kernel_rfl) (by kernel_rfl) (by exact fun _ _ _ h => h) (by rfl) ?_ hS ?_
                rotate_left
                · ((intro w hSw; skip; go_simp) <;> with_reducible rfl)
                (try simp only [Act.put, List.setIfInBounds_toArray, List.set_cons_zero, List.set_cons_succ])
                refine any_take (i := 3) (v := .string xk) rfl (by kernel_rfl) (by kernel_rfl) (by kernel_rfl) (by exact fun _ _ _ h => h) (by rfl) ?_ hS ?_
                · intro W hSW; exact exec_slice18 rfl rfl (S12.out.1 W)
                (try simp only [Act.put, List.setIfInBounds_toArray, List.set_cons_zero, List.set_cons_succ])
                refine any_take (i := 4) (v := ?_) rfl (by kernel_rfl) (by kernel_rfl) (by kernel_rfl) (by exact fun _ _ _ h => h) (by rfl) ?_ hS ?_
                rotate_left
                · ((intro w hSw; skip; go_simp) <;> with_reducible rfl)
                (try simp only [Act.put, List.setIfInBounds_toArray, List.set_cons_zero, List.set_cons_succ])
                refine any_take (i := 5) (v := ?_) rfl (by kernel_rfl) (by kernel_rfl) (by kernel_rfl) (by exact fun _ _ _ h => h) (by rfl) ?_ hS ?_
                rotate_left
                · ((intro w hSw; skip; go_simp) <;> with_reducible rfl)
                (try simp only [Act.put, List.setIfInBounds_toArray, List.set_cons_zero, List.set_cons_succ])
                refine any_take (i := 6) (v := ?_) rfl (by kernel_rfl) (by kernel_rfl) (by kernel_rfl) (by exact fun _ _ _ h => h) (by rfl) ?_ hS ?_
                rotate_left
                · ((intro w hSw; skip; go_simp) <;> with_reducible rfl)
                (try simp only [Act.put, List.setIfInBounds_toArray, List.set_cons_zero, List.set_cons_succ])
                refine any_take (i := 7) (v := ?_) rfl (by kernel_rfl) (by kernel_rfl) (by kernel_rfl) (by exact fun _ _ _ h => h) (by rfl) ?_ hS ?_
                rotate_left
                · ((intro w hSw; skip; go_simp) <;> with_reducible rfl)
                (try simp only [Act.put, List.setIfInBounds_toArray, List.set_cons_zero, List.set_cons_succ])
                refine any_take (i := 8) (v := .string xv) rfl (by kernel_rfl) (by kernel_rfl) (by kernel_rfl) (by exact fun _ _ _ h => h) (by rfl) ?_ hS ?_
                · intro W hSW; exact exec_slice18 rfl rfl (S12.out.2 W)
                (try simp only [Act.put, List.setIfInBounds_toArray, List.set_cons_zero, List.set_cons_succ])
                refine any_take (i := 9) (v := ?_) rfl (by kernel_rfl) (by kernel_rfl) (by kernel_rfl) (by exact fun _ _ _ h => h) (by rfl) ?_ hS ?_
                rotate_left
                · ((intro w hSw; skip; go_simp) <;> with_reducible rfl)
                (try simp only [Act.put, List.setIfInBounds_toArray, List.set_cons_zero, List.set_cons_succ])
                refine any_one (i := 10) rfl (by kernel_rfl) (fun K hK => ?_)
                go_simp
                rw [← hw3]
                refine hK.out _ _ (HW.out.1) ?_
                clear hK K hS
                have hS := HW.out.1
                refine any_one (i := 11) rfl (by kernel_rfl) (fun K hK => ?_)
                refine step_skip18 (by rfl) (exec_store rfl rfl rfl st) ?_
                refine hK.out _ _ (HW.out.2.1) ?_
                clear hK K hS
                refine wpAnyH_done (by kernel_rfl) ?_ _
                have G4 := HQ.out.1.later b4
                have y0 := ck_at N4 0
                have y1 := ck_at N4 1
                simp only [List.getElem?_cons_zero, List.getElem?_cons_succ] at y0 y1
                obtain ⟨av2, cv2, ee, -, -, hat⟩ := G4.at
                cases ee
                have H4 : Hid _ := And.intro G4 (And.intro hat N4)
                clear G4 hat N4 N0 b0 g4 st b4 hw3 HW
                have HC : Hid _ := tCanBe_any xk xv w4
                have hcn : canP (xk, xv) = true ∨ canP (xk, xv) = false := by cases canP (xk, xv) <;> simp
                rw [← hcpd] at HC
                clear hcpd
                rcases hcn with hcn | hcn
                · rw [hcn] at HC hokd
                  clear hcn
                  go_wp2_with fail
                  refine (Calls.mono HC.out) ?_
                  rintro e w5 ⟨rfl, b5⟩
                  clear HC
                  have y2 := ck_later y0 b5
                  have G5 := H4.out.1.later b5
                  have HT : Hid _ := tStands_any av cv out xk w5 (gat_later b5 H4.out.2.1) (by have := HQ.out.2.2; omega)
                  have N5 := H4.out.2.2.laterB b5
                  have H5 : Hid _ := And.intro G5 N5
                  clear G5 N5 H4 y0 y1 b5
                  generalize han : (out.any fun q => decide (q.1 = xk)) = an at *
                  cases an
                  · have ok : okL out (xk, xv) = true := hokd.trans rfl
                    have hLn := HO.out ok
                    clear ok hokd HB HO han
                    go_wp2_with fail
                    refine (Calls.mono HT.out) ?_
                    rintro e w6 ⟨rfl, b6⟩
                    clear HT
                    have G6 := H5.out.1.later b6
                    have N6 := H5.out.2.laterB b6
                    have y0 := ck_at N6 0
                    have y1 := ck_at N6 1
                    simp only [List.getElem?_cons_zero, List.getElem?_cons_succ] at y0 y1
                    clear y2
                    obtain ⟨v7, w7, hap, G7⟩ := G6.more (xk, xv) HQ.out.2.2
                    obtain ⟨a7, c7, ee7, -, -, -⟩ := G7.at
                    subst ee7
                    have ll : (out ++ [(xk, xv)]).length = out.length + 1 := by simp
                    rw [ll] at G7 hap
                    clear ll
                    have F : Hid _ := And.intro G7 (And.intro hLn (And.intro HQ.out.2.1 (Nat.lt_succ_self pos)))
                    have w8 : IntKind.i64.wrap ((pos : Int) + 1) = (pos : Int) + 1 := by rw [IntKind.wrap_i64]; omega
                    clear G6 N6 G7 hLn H5 HQ b6
                    go_wp2_with (at_builtin; refine wpList_run_app rfl _ _ 28 28 rfl _ _ rfl rfl hap ?_)
                    go_wp2
                    go_roundw
                    case rel => exact ⟨_, _, _, _, _, rfl, rfl, rfl, F.out.1, F.out.2.1⟩
                    case measure => have e1 := F.out.1.pos_eq; have e2 := F.out.2.2.1; have e3 := F.out.2.2.2; rw [e1, e2]; omega
                  · have ok : okL out (xk, xv) = false := hokd.trans rfl
                    have F : Hid _ := And.intro (HB.out ok) H5.out.1.bel
                    clear ok hokd HB HO han H5 HQ
                    go_wp2_with fail
                    refine (Calls.mono HT.out) ?_
                    rintro e w6 ⟨rfl, b6⟩
                    clear HT
                    have F2 : Hid _ := below_then F.out.2 b6
                    clear b6 y2
                    go_wp2
                    (try rw [Exit.noGoto_ret])
                    refine bodyPost_ret (v := .tuple #[.slice none 0 0, .int .i64 11]) (by first | rfl | simp [results, Tryd.results13, go_sem]) rfl ?_
                    exact ⟨_, by rw [F.out.1], by rw [F.out.1]; exact PrI.none F2.out⟩
                · rw [hcn] at HC hokd
                  have ok : okL out (xk, xv) = false := hokd.trans rfl
                  have F : Hid _ := And.intro (HB.out ok) H4.out.1.bel
                  clear ok hokd HB HO hcn H4 HQ
                  go_wp2_with fail
                  refine (Calls.mono HC.out) ?_
                  rintro e w5 ⟨rfl, b5⟩
                  clear HC
                  have F2 : Hid _ := below_then F.out.2 b5
                  clear b5 y0 y1
                  go_wp2
                  (try rw [Exit.noGoto_ret])
                  refine bodyPost_ret (v := .tuple #[.slice none 0 0, .int .i64 11]) (by first | rfl | simp [results, Tryd.results13, go_sem]) rfl ?_
                  exact ⟨_, by rw [F.out.1], by rw [F.out.1]; exact PrI.none F2.out⟩
        · have hn2 := hG.stop hlt 0
          have F : Hid _ := And.intro (HR.out.trans (hL.done (by rw [us_len, ← HL0.out.2.1]; exact hlt))) hG.pri
          obtain ⟨av, cv, rfl, -, -, -⟩ := hG.at
          clear hG hL hpe
          go_wp2
          (try rw [Exit.noGoto_ret])
          refine bodyPost_ret (v := .tuple #[.slice av out.length cv, .int .i64 0]) (by first | rfl | simp [results, Tryd.results13, go_sem]) rfl ?_
          exact ⟨_, by rw [F.out.1], by rw [F.out.1]; exact F.out.2⟩
    · have F : Hid _ := gtR_short (l := l) (by omega) (by rw [← hnl]; exact hzb)
      have q1 : (bt l (n - 1) != 0) = true := by simpa using hzb
      clear hr
      generalize bt l (n - 1) = B at *
      clear hlen hle hnl hn h0
      go_enter Tryd.func13, Tryd.ntmps13
      go_wp2
      go_step3
      go_wp2
      (try rw [Exit.noGoto_ret])
      refine bodyPost_ret (v := .tuple #[.slice none 0 0, .int .i64 10]) (by first | rfl | simp [results, Tryd.results13, go_sem]) rfl ?_
      exact ⟨_, by rw [F.out], by rw [F.out]; exact PrI.none (Below.refl _ _)⟩
end Go.Proofs.YtligmiajlbjecaaDoor
