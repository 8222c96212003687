/- What stands between two rounds of PduBack's loops. -/
import Derived.Test.YtfcaaljehhibgaaXPbB
import Derived.Test.YtfcaaljehhibgaaXPdK
import Derived.Test.YtfcaaljehhibgaaXSeA
import Derived.Test.YtfcaaljehhibgaaXSumC
import Derived.Test.YtfcaaljehhibgaaXDraw
namespace Go.Proofs.Ytfcaaljehhibgaa
open Go.RowKit
set_option linter.unusedVariables false
set_option linter.unusedSimpArgs false
set_option maxRecDepth 8000

def ltrs (ys : List Lm7) : List Lt7 := ys.map Lm7.x
theorem strm_snoc (hs ds : Bool) (ys : List Lm7) (y : Lm7) : strm hs ds (ltrs (ys ++ [y])) = strm hs ds (ltrs ys) ++ y.x.enc hs ds := by
  unfold strm ltrs
  rw [List.map_append, List.flatMap_append]
  simp
/-- while letters are written -/
structure PbS (hs ds : Bool) (mo : Int) (w w1 wr : World) (av wv : Value) (k : Nat) (ys : List Lm7) (qa qw : Option Nat) : Prop where
  all : BSl wr av qa (strm hs ds (ltrs ys))
  want : GSl kPd wr wv qw ys
  few : ys.length ≤ k
  most : (strm hs ds (ltrs ys)).length ≤ 131072
  each : ∀ y ∈ ys, y.Ok w ∧ y.x.err mo = 0
  qaN : ∀ b, qa = some b → w1.heap.size ≤ b ∧ qw ≠ some b
  qwN : ∀ b, qw = some b → w1.heap.size ≤ b
  bel : Below w1.heap.size w1 wr
theorem PbS.start (hs ds : Bool) (mo : Int) (w w1 : World) : PbS hs ds mo w w1 w1 (.slice none 0 0) (.slice none 0 0) 0 [] none none :=
  ⟨BSl.nil _, GSl.nil _ _, Nat.le_refl _, Nat.zero_le _, (fun y hy => by cases hy), (fun b hb => by cases hb), (fun b hb => by cases hb), Below.refl _ _⟩
theorem PbS.later {hs ds : Bool} {mo : Int} {w w1 wr wr' : World} {av wv : Value} {k : Nat} {ys : List Lm7} {qa qw : Option Nat} (h : PbS hs ds mo w w1 wr av wv k ys qa qw) (hb : Below wr.heap.size wr wr') : PbS hs ds mo w w1 wr' av wv (k + 1) ys qa qw :=
  ⟨h.all.later hb, h.want.later hb, Nat.le_succ_of_le h.few, h.most, h.each, h.qaN, h.qwN, below_then h.bel hb⟩
theorem PbS.add {hs ds : Bool} {mo : Int} {w w1 wr : World} {av wv : Value} {k : Nat} {ys : List Lm7} {qa qw : Option Nat} (h : PbS hs ds mo w w1 wr av wv (k + 1) ys qa qw) (y : Lm7) (hy : y.Ok w) (he : y.x.err mo = 0) (za : Option Addr) (zc : Nat) (hz : Row wr za (y.x.enc hs ds)) (hzn : za = none → zc = 0) (hzc : (y.x.enc hs ds).length ≤ zc) (hsum : (strm hs ds (ltrs ys)).length + (y.x.enc hs ds).length ≤ 131072) (hk : k ≤ 8) (hfew : ys.length ≤ k) :
    ∃ a' c' u1 wv' u2, (Builtin.append_ #[34, 34] 34 #[av, .slice za (y.x.enc hs ds).length zc]).run Try.prog wr = .ok (.slice a' ((strm hs ds (ltrs ys)).length + (y.x.enc hs ds).length) c') u1 ∧ (Builtin.append_ #[58, 58] 58 #[wv, .slice (some ⟨u1.heap.size, 0, none⟩) 1 1]).run Try.prog (u1.alloc (.cells y.cs.toArray 50)) = .ok wv' u2 ∧ Below wr.heap.size wr wr ∧ (Below w1.heap.size w1 u1) ∧ ∃ qa' qw', PbS hs ds mo w w1 u2 (.slice a' ((strm hs ds (ltrs ys)).length + (y.x.enc hs ds).length) c') wv' (k + 1) (ys ++ [y]) qa' qw' := by
  obtain ⟨v1, u1, qa', hr1, hA, hg1, hq1⟩ := h.all.append za _ zc (y.x.enc hs ds) rfl hz hzn hzc (by omega) 34
  obtain ⟨a', c', rfl, -⟩ := hA.open
  rw [List.length_append] at hr1
  have hs1 := hg1.size
  have hbs := h.bel.size
  have W1 : GSl kPd u1 wv qw ys := h.want.same (fun j hj => hg1.block j (h.want.lt j hj) (fun e => (h.qaN j e.symm).2 hj))
  have b1 : Below w1.heap.size w1 u1 := h.bel.grown hg1 hbs (fun j hj => (h.qaN j hj).1)
  have bn : Below u1.heap.size u1 (u1.alloc (.cells y.cs.toArray 50)) := (Below.refl _ _).alloc (Nat.le_refl _) _
  have hx := new_one7 u1 y
  obtain ⟨wv', u2, qw', hr2, hW, hg2, hq2⟩ := (W1.later bn).append kPd_ok hx (by simp; omega) 58
  have hb1 := b1.size
  have hbn := bn.size
  have bb := below_then b1 bn
  have A1 := hA.later bn
  have hqa : ∀ b, qa' = some b → w1.heap.size ≤ b ∧ b < u1.heap.size ∧ qw ≠ some b := fun b hb => by
    have hlt := hA.lt b hb
    rcases hq1 b hb with e | e
    · exact ⟨(h.qaN b e).1, hlt, (h.qaN b e).2⟩
    · refine ⟨by omega, hlt, fun e2 => ?_⟩
      have := h.want.lt b e2
      omega
  have A2 : BSl u2 (.slice a' (strm hs ds (ltrs ys) ++ y.x.enc hs ds).length c') qa' (strm hs ds (ltrs ys) ++ y.x.enc hs ds) := A1.same (fun j hj => hg2.block j (A1.lt j hj) (fun e => (hqa j hj).2.2 e.symm))
  refine ⟨a', c', u1, wv', u2, hr1, hr2, Below.refl _ _, b1, qa', qw', ?_⟩
  refine ⟨?_, hW, by rw [List.length_append]; simp; omega, ?_, fun x hx => ?_, fun b hb => ?_, fun b hb => ?_, bb.grown hg2 bb.size (fun j hj => h.qwN j hj)⟩
  · rw [strm_snoc, ← List.length_append]; exact A2
  · rw [strm_snoc, List.length_append]; exact hsum
  · rcases List.mem_append.1 hx with e | e
    · exact h.each x e
    · rw [List.mem_singleton.1 e]; exact ⟨hy, he⟩
  · refine ⟨(hqa b hb).1, fun e => ?_⟩
    rcases hq2 b e with e2 | e2
    · exact (hqa b hb).2.2 e2
    · have := (hqa b hb).2.1; omega
  · rcases hq2 b hb with e | e
    · exact h.qwN b e
    · omega
/-- while letters are read: n are told, l waits in the reader, a is still to be fed -/
structure PbR (hs ds : Bool) (mo : Int) (w2 wr : World) (g : Nat) (q qa : Option Nat) (av : Value) (xs : List Lt7) (l a : List (BitVec 8)) : Prop where
  rd : RdS wr g q hs ds mo l false
  st : RSt w2 wr g none q
  all : BSl wr av qa a
  eq : l ++ a = strm hs ds xs
theorem PbR.qaq {hs ds : Bool} {mo : Int} {w2 wr : World} {g : Nat} {q qa : Option Nat} {av : Value} {xs : List Lt7} {l a : List (BitVec 8)} (h : PbR hs ds mo w2 wr g q qa av xs l a) (hq : ∀ b, qa = some b → b < w2.heap.size) : ∀ b, qa = some b → q ≠ some b := fun b hb e => by
  rcases h.st.nw b e with e2 | e2
  · cases e2
  · have := hq b hb; omega
theorem PbR.later {hs ds : Bool} {mo : Int} {w2 wr wr' : World} {g : Nat} {q qa : Option Nat} {av : Value} {xs : List Lt7} {l a : List (BitVec 8)} (h : PbR hs ds mo w2 wr g q qa av xs l a) (hb : Below wr.heap.size wr wr') : PbR hs ds mo w2 wr' g q qa av xs l a :=
  ⟨h.rd.later hb, h.st.then hb, h.all.later hb, h.eq⟩
theorem strm_drop (hs ds : Bool) (xs : List Lt7) (n : Nat) : (strm hs ds (xs.drop n)).length ≤ (strm hs ds xs).length := by
  induction n generalizing xs with
  | zero => exact Nat.le_refl _
  | succ n ih =>
    cases xs with
    | nil => exact Nat.le_refl _
    | cons x r =>
      refine Nat.le_trans (ih r) ?_
      unfold strm
      rw [List.flatMap_cons, List.length_append]
      omega
theorem cell_laterP {w w' : World} {b o : Nat} {v : Value} (hb : Below w.heap.size w w') (h : w.cell? ⟨b, o, none⟩ = some v) : w'.cell? ⟨b, o, none⟩ = some v := by
  have hlt : b < w.heap.size := by
    unfold World.cell? at h
    by_cases e : b < w.heap.size
    · exact e
    · have e2 : w.heap[b]? = none := Array.getElem?_eq_none (by omega)
      simp [e2] at h
  unfold World.cell? at h ⊢
  simp only [hb.block b hlt]
  exact h
theorem PbR.few {hs ds : Bool} {mo : Int} {w2 wr : World} {g : Nat} {q qa : Option Nat} {av : Value} {ys : List Lm7} {n : Nat} {l a : List (BitVec 8)} (h : PbR hs ds mo w2 wr g q qa av ((ltrs ys).drop n) l a) (hm : (strm hs ds (ltrs ys)).length ≤ 131072) : l.length + a.length ≤ 131072 := by
  have h1 := congrArg List.length h.eq
  rw [List.length_append] at h1
  have h2 := strm_drop hs ds (ltrs ys) n
  omega
theorem strm_nil {hs ds : Bool} {mo : Int} {xs : List Lt7} (hx : ∀ x ∈ xs, x.err mo = 0) (h : strm hs ds xs = []) : xs = [] := by
  cases xs with
  | nil => rfl
  | cons x r =>
    have h1 := enc_len (hs := hs) (ds := ds) (hx x (List.mem_cons_self ..))
    have h2 : x.enc hs ds ++ strm hs ds r = [] := by rw [← h]; exact List.flatMap_cons.symm
    rw [(List.append_eq_nil_iff.1 h2).1] at h1
    simp at h1
theorem own_rowP {w : World} {base n c : Nat} {a : Option Addr} {l : List (BitVec 8)} (h : Own w base (.slice a n c) l) : Row w a l := by
  obtain ⟨a', c', hv, -, -, hr, -, -⟩ := h.open
  simp only [Value.slice.injEq] at hv
  obtain ⟨rfl, -, rfl⟩ := hv
  exact hr
end Go.Proofs.Ytfcaaljehhibgaa

