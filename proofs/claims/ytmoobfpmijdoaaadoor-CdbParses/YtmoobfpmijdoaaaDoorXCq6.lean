/- cdb: the document's Parse, whatever bytes; what is read is built again. -/
import Derived.Test.YtmoobfpmijdoaaaDoorXCq4
import Derived.Test.YtmoobfpmijdoaaaDoorXCdC
namespace Go.Proofs.YtmoobfpmijdoaaaDoor
open Go.RowKit
set_option linter.unusedVariables false
set_option linter.unusedSimpArgs false
set_option maxRecDepth 8000

theorem rparse_any (ad : Option Addr) (c : Nat) (l : List (BitVec 8)) (w : World) (hr : Row w ad l) (hlen : l.length ≤ 140737488355328) :
    Calls Tryd.prog 22 #[.slice ad l.length c] w fun e w' => e = .returned (.tuple #[.agg (paR l).1.toArray, .int .i64 (paR l).2]) ∧ Below w.heap.size w w' := by
  by_cases h16 : l.length = 16
  · cases hf : findR (bt l 0) with
    | none => exact rparse_none ad c l w hr h16 hf
    | some r =>
      have h2 := find_bits2 hf
      obtain ⟨o, a0, b0, a1, b1, a2, b2, a3, b3, a4, b4, a5, b5, rfl, ho, p0, p1, p2, p3, p4, p5, q0, q1, q3, q5⟩ := (findR_ok hf).1.six
      rcases bit_one l a2 b2 p2 h2 with hv | hv
      · exact rparse_true ad c l w hr h16 o a0 b0 a1 b1 a2 b2 a3 b3 a4 b4 a5 b5 hf ho p0 p1 p2 p3 p4 p5 q0 q1 q3 q5 hv
      · exact rparse_false ad c l w hr h16 o a0 b0 a1 b1 a2 b2 a3 b3 a4 b4 a5 b5 hf ho p0 p1 p2 p3 p4 p5 q0 q1 q3 q5 hv
  · exact rparse_size ad c l w h16 hlen
theorem vOk_of {a b : Int} {m : BitVec 64} (h : FOk b m) : vOk (a, b) m = true := by
  unfold vOk
  by_cases hb : b = 0
  · simp [hb]
  · simp [h.2 hb]
theorem zOk_of {a b : Int} {m : BitVec 64} (h : FOk b m) : zOk (a, b) m = true := by
  unfold zOk
  by_cases hb : b = 0
  · rw [h.1 hb]; simp
  · simp [hb]
/-- what is read is built again -/
theorem parse_back {l : List (BitVec 8)} {o a0 b0 a1 b1 a2 b2 a3 b3 a4 b4 a5 b5 : Int} (hf : findR (bt l 0) = some ⟨o, [(a0, b0), (a1, b1), (a2, b2), (a3, b3), (a4, b4), (a5, b5)]⟩) (hw : wrF o [((a0, b0), fvB l a0 b0), ((a1, b1), fvB l a1 b1), ((a2, b2), fvB l a2 b2), ((a3, b3), fvB l a3 b3), ((a4, b4), fvB l a4 b4), ((a5, b5), fvB l a5 b5)] 6 = l) :
    buR o ((fvB l a0 b0).toNat : Int) ((fvB l a1 b1).toNat : Int) (((fvB l a2 b2).toNat : Int) == 1) ((fvB l a3 b3).toNat : Int) (fvB l a4 b4) ((fvB l a5 b5).toNat : Int) = (some l, 0) := by
  have h2 := find_bits2 hf
  have hop : o = bt l 0 := (findR_ok hf).2
  obtain ⟨o', a0', b0', a1', b1', a2', b2', a3', b3', a4', b4', a5', b5', e, ho, p0, p1, p2, p3, p4, p5, -⟩ := (findR_ok hf).1.six
  simp only [CR.mk.injEq, List.cons.injEq, Prod.mk.injEq, and_true] at e
  obtain ⟨rfl, ⟨rfl, rfl⟩, ⟨rfl, rfl⟩, ⟨rfl, rfl⟩, ⟨rfl, rfl⟩, ⟨rfl, rfl⟩, ⟨rfl, rfl⟩⟩ := e
  have hv : valB ((fvB l a0 b0).toNat : Int) ((fvB l a1 b1).toNat : Int) (((fvB l a2 b2).toNat : Int) == 1) ((fvB l a3 b3).toNat : Int) (fvB l a4 b4) ((fvB l a5 b5).toNat : Int) = [fvB l a0 b0, fvB l a1 b1, fvB l a2 b2, fvB l a3 b3, fvB l a4 b4, fvB l a5 b5] := by
    unfold valB
    rw [ofInt_nat, ofInt_nat, ofInt_nat, ofInt_nat]
    have : (if (((fvB l a2 b2).toNat : Int) == 1) = true then 1#64 else 0#64) = fvB l a2 b2 := by
      rcases bit_one l a2 b2 p2 h2 with h | h
      · rw [h]; apply BitVec.eq_of_toNat_eq; rw [h]; rfl
      · rw [h]; apply BitVec.eq_of_toNat_eq; rw [h]; rfl
    rw [this]
  unfold buR
  rw [hv]
  unfold buQ
  rw [hop, hf]
  have f0 := fok_fv l a0 b0 p0
  have f1 := fok_fv l a1 b1 p1
  have f2 := fok_fv l a2 b2 p2
  have f3 := fok_fv l a3 b3 p3
  have f4 := fok_fv l a4 b4 p4
  have f5 := fok_fv l a5 b5 p5
  have k1 : ([((a0, b0), fvB l a0 b0)] ++ [((a1, b1), fvB l a1 b1), ((a2, b2), fvB l a2 b2), ((a3, b3), fvB l a3 b3), ((a4, b4), fvB l a4 b4), ((a5, b5), fvB l a5 b5)]).all (fun q => vOk q.1 q.2) = true := by
    simp [vOk_of f0, vOk_of f1, vOk_of f2, vOk_of f3, vOk_of f4, vOk_of f5]
  have k2 : ([((a0, b0), fvB l a0 b0)] ++ [((a1, b1), fvB l a1 b1), ((a2, b2), fvB l a2 b2), ((a3, b3), fvB l a3 b3), ((a4, b4), fvB l a4 b4), ((a5, b5), fvB l a5 b5)]).all (fun q => zOk q.1 q.2) = true := by
    simp [zOk_of f0, zOk_of f1, zOk_of f2, zOk_of f3, zOk_of f4, zOk_of f5]
  show (if ([((a0, b0), fvB l a0 b0)] ++ [((a1, b1), fvB l a1 b1), ((a2, b2), fvB l a2 b2), ((a3, b3), fvB l a3 b3), ((a4, b4), fvB l a4 b4), ((a5, b5), fvB l a5 b5)]).all (fun q => vOk q.1 q.2) = true then _ else _) = _
  rw [if_pos k1]
  show (if ([((a0, b0), fvB l a0 b0)] ++ [((a1, b1), fvB l a1 b1), ((a2, b2), fvB l a2 b2), ((a3, b3), fvB l a3 b3), ((a4, b4), fvB l a4 b4), ((a5, b5), fvB l a5 b5)]).all (fun q => zOk q.1 q.2) = true then _ else _) = _
  rw [if_pos k2]
  show (some (wrF o [((a0, b0), fvB l a0 b0), ((a1, b1), fvB l a1 b1), ((a2, b2), fvB l a2 b2), ((a3, b3), fvB l a3 b3), ((a4, b4), fvB l a4 b4), ((a5, b5), fvB l a5 b5)] 6), (0 : Int)) = (some l, 0)
  rw [hw]
end Go.Proofs.YtmoobfpmijdoaaaDoor

