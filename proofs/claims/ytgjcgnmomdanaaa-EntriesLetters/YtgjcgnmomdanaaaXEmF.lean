/- A message unpacked: what is answered, without Go; bounds of what is read. -/
import Derived.Test.YtgjcgnmomdanaaaXEmE
import Derived.Test.YtgjcgnmomdanaaaXEp3
import Derived.Test.YtgjcgnmomdanaaaXEm1
namespace Go.Proofs.Ytgjcgnmomdanaaa
open Go.RowKit Go.Shelf
set_option linter.unusedVariables false
set_option linter.unusedSimpArgs false
set_option maxRecDepth 8000

/-- ahead of the sum; is the sum right; where the reader begins -/
def umA (l : List (BitVec 8)) : List (BitVec 8) := l.take (l.length - 4)
def umK (l : List (BitVec 8)) : Bool := decide (((numTo l (l.length - 4) 4).toNat : Int) = ((Crc.sum (umA l)).toNat : Int))
def umS (l : List (BitVec 8)) : Rs := ((umA l).drop 1, 0)
def umHd (l : List (BitVec 8)) : Bool := decide (umA l = [] ∨ ¬ bt (umA l) 0 = 202)
def mg0 : Mg := ⟨0, 0, 0, 0, 0, 0, 0, 0, false, [], []⟩
def umR (s : Rs) : Int := if rdEnd (rmS s).1 (rmS s).2 = 0 then (if 1 < rmY s then 11 else if canM (rmM s) = true then 0 else 1) else rdEnd (rmS s).1 (rmS s).2
def umE (l : List (BitVec 8)) : Int :=
  if 65536 < l.length then 3 else if l.length < 4 then 10 else if umK l = false then 12 else if umHd l = true then 11 else umR (umS l)
def umM (l : List (BitVec 8)) : Mg := if umE l = 0 then rmM (umS l) else mg0
def UmR (l : List (BitVec 8)) (w : World) (e : Ending) (w' : World) : Prop :=
  ∃ ea ec da dc, e = .returned (.tuple #[msgV (umM l) ea ec da dc, .int .i64 (umE l)]) ∧ (∃ V vs, EsOwn w' w.heap.size (.slice ea (umM l).es.length ec) (umM l).es V vs ∧ ∀ k ∈ V, w.heap.size ≤ k) ∧ Own w' w.heap.size (.slice da (umM l).dt.length dc) (umM l).dt ∧ Below w.heap.size w w'
theorem UmR.no {l : List (BitVec 8)} {w w' : World} {E : Int} (h : umE l = E) (h0 : E ≠ 0) (hB : Below w.heap.size w w') : UmR l w (.returned (.tuple #[.agg #[.int .i64 0, .int .i64 0, .int .i64 0, .int .i64 0, .int .i64 0, .int .i64 0, .int .i64 0, .int .i64 0, .bool false, .slice none 0 0, .slice none 0 0], .int .i64 E])) w' := by
  have hm : umM l = mg0 := by unfold umM; rw [h, if_neg h0]
  unfold UmR
  rw [hm, h]
  exact ⟨none, 0, none, 0, rfl, ⟨[], [], EsOwn.nil _ _, by simp⟩, Own.nil _ _, hB⟩
theorem um_exit {w W : World} (hB : Below w.heap.size w W) (hM : Blk W w.heap.size 25 [.int .i64 0, .int .i64 0, .int .i64 0, .int .i64 0, .int .i64 0, .int .i64 0, .int .i64 0, .int .i64 0, .bool false, .slice none 0 0, .slice none 0 0]) : ∃ w', (Instr.storeAt 25 (.pointer (some ⟨w.heap.size, 0, none⟩)) (.agg #[.int .i64 0, .int .i64 0, .int .i64 0, .int .i64 0, .int .i64 0, .int .i64 0, .int .i64 0, .int .i64 0, .bool false, .slice none 0 0, .slice none 0 0])).run Try.prog W = .ok () w' ∧ Blk w' w.heap.size 25 [.int .i64 0, .int .i64 0, .int .i64 0, .int .i64 0, .int .i64 0, .int .i64 0, .int .i64 0, .int .i64 0, .bool false, .slice none 0 0, .slice none 0 0] ∧ Below w.heap.size w w' := by
  obtain ⟨w', h1, h2, h3⟩ := store_msg (vs := [.int .i64 0, .int .i64 0, .int .i64 0, .int .i64 0, .int .i64 0, .int .i64 0, .int .i64 0, .int .i64 0, .bool false, .slice none 0 0, .slice none 0 0]) hM rfl rfl (by intro u hu; simp only [List.mem_cons, List.not_mem_nil, or_false] at hu; rcases hu with rfl | rfl | rfl | rfl | rfl | rfl | rfl | rfl | rfl | rfl | rfl <;> rfl)
  exact ⟨w', h1, h2, hB.trans (grown_below h3 _ (Nat.le_refl _) hB.size)⟩
/- bounds -/
theorem rdBytes_len (L : List (BitVec 8)) (E s : Int) : (rdBytes L E s).1.length ≤ L.length ∧ (rdBytes L E s).2.2.length ≤ L.length := by
  unfold rdBytes
  split
  · split
    · refine ⟨?_, ?_⟩
      · show (L.drop _).length ≤ _; rw [List.length_drop]; omega
      · show ((L.drop _).take _).length ≤ _; rw [List.length_take, List.length_drop]; omega
    · exact ⟨Nat.zero_le _, Nat.zero_le _⟩
  · exact ⟨Nat.zero_le _, Nat.zero_le _⟩
theorem rdCount_len (L : List (BitVec 8)) (E s m : Int) : (rdCount L E s m).1.length ≤ L.length := by
  unfold rdCount
  split
  · split
    · exact Nat.zero_le _
    · split
      · exact Nat.zero_le _
      · exact rdNum_len L E s
  · exact Nat.zero_le _
theorem rn_len (s : Rs) (k : Int) : (rn s k).1.length ≤ s.1.length := rdNum_len _ _ _
theorem rcnt_len (s : Rs) : (rcnt s).1.length ≤ s.1.length := by
  have h0 := rdCount_len (rn9 s 5).1 (rn9 s 5).2 2 4096
  have a (s : Rs) : ∀ k, (rn4 s k).1.length ≤ s.1.length := fun k => by
    induction k with
    | zero => exact Nat.le_refl _
    | succ k ih => exact Nat.le_trans (rn_len _ _) ih
  have b : ∀ k, (rn9 s k).1.length ≤ s.1.length := fun k => by
    induction k with
    | zero => exact a s 4
    | succ k ih => exact Nat.le_trans (rn_len _ _) ih
  exact Nat.le_trans h0 (b 5)
theorem rNext_len (s : Rs) : (rNext s).1.length ≤ s.1.length ∧ (rEntE s).2.2.length ≤ s.1.length := by
  have h1 : (rkE s).1.length ≤ s.1.length := rdNum_len _ _ _
  have h2 : (rtE s).1.length ≤ (rkE s).1.length := rdNum_len _ _ _
  have h3 := rdBytes_len (rtE s).1 (rtE s).2.1 2
  exact ⟨Nat.le_trans h3.1 (Nat.le_trans h2 h1), Nat.le_trans h3.2 (Nat.le_trans h2 h1)⟩
theorem rents_len (s : Rs) (k : Nat) : (rents s k).1.length ≤ s.1.length := by
  induction k with
  | zero => exact Nat.le_refl _
  | succ k ih => exact Nat.le_trans (rNext_len _).1 ih
theorem rentsV_ok (s : Rs) (n : Nat) (h : s.1.length ≤ n) (k : Nat) : ∀ e ∈ rentsV s k, I64 e.1 ∧ I64 e.2.1 ∧ e.2.2.length ≤ n := by
  induction k with
  | zero => intro e he; cases he
  | succ k ih =>
    intro e he
    unfold rentsV at he
    rcases List.mem_append.1 he with he | he
    · exact ih e he
    · rw [List.mem_singleton.1 he]
      have h1 := rkE_bd (rents s k)
      have h2 : 0 ≤ (rdNum (rkE (rents s k)).1 (rkE (rents s k)).2.1 6).2.2 ∧ (rdNum (rkE (rents s k)).1 (rkE (rents s k)).2.1 6).2.2 < 281474976710656 := rdNum_bd (rkE (rents s k)).1 (rkE (rents s k)).2.1 6 (.inr rfl)
      have h3 := (rNext_len (rents s k)).2
      have h4 := rents_len s k
      have e2 : (rEntE (rents s k)).2.1 = (rdNum (rkE (rents s k)).1 (rkE (rents s k)).2.1 6).2.2 := rfl
      have e1 : (rEntE (rents s k)).1 = (rkE (rents s k)).2.2 - 64 := rfl
      refine ⟨?_, ?_, by omega⟩
      · unfold I64; rw [e1]; omega
      · unfold I64; rw [e2]; exact ⟨by omega, by omega⟩
theorem rmM_es (s : Rs) : (rmM s).es.length ≤ 4096 := by
  show (rentsV (rcnt s) (rcntV s).toNat).length ≤ 4096
  rw [rentsV_len]
  have := rcntV_bd s
  omega
theorem rmM_ok (s : Rs) (n : Nat) (h : s.1.length ≤ n) : ∀ e ∈ (rmM s).es, I64 e.1 ∧ I64 e.2.1 ∧ e.2.2.length ≤ n := rentsV_ok (rcnt s) n (Nat.le_trans (rcnt_len s) h) _
/- bytes cut -/
theorem exec_sliceM {P : Program} {w : World} {a : Act} {o : Oper} {t : TypeId} {x : Operand} {lo hi : Option Operand} (ho : o.op = .slice t x lo hi none) {p u : Value} (hx : a.eval x = p) (h : (Instr.sliceAt t p (lo.map a.eval) (hi.map a.eval) none).run P w = .ok u w) : (execOp a.eval o).run P w = .ok (.value u) w := by
  simp [execOp, ho, hx, h, Result.andThen]
theorem sz_u8M (w : World) : (sizeOf (Try.prog.elem 23)).run Try.prog w = .ok 1 w := by
  have e : Try.prog.elem 23 = 5 := by kernel_rfl
  obtain ⟨i0, hi, -, hz1, -⟩ := info_parts info_u8
  rw [e]
  simp [sizeOf, typeInfo, hi, hz1]
theorem elem_u8sM : Try.prog.underlying 23 = some (.slice (Try.prog.elem 23)) := by kernel_rfl
/-- x[k:] of bytes -/
theorem slice_fromM {w : World} {a : Option Addr} {n c : Nat} {l : List (BitVec 8)} (hr : Row w a l) (hl : l.length = n) (hc : n ≤ c) (hn : a = none → c = 0) (k : Nat) (hk : k ≤ n) :
    ∃ y, (∀ W : World, (Instr.sliceAt 23 (.slice a n c) (some (.int .i64 (k : Int))) none none).run Try.prog W = .ok (.slice y (n - k) (c - k)) W) ∧ Row w y (l.drop k) ∧ (y = none → c - k = 0) ∧ (∀ x, y = some x → ∃ x0, a = some x0 ∧ x.block = x0.block) := by
  have hrun : ∀ W : World, (Instr.sliceAt 23 (.slice a n c) (some (.int .i64 (k : Int))) none none).run Try.prog W = .ok (sliced a k n c 1) W := fun W => by
    rw [run_sliceAt_slice W _ _ _ _ _ elem_u8sM, run_slice_l W _ _ _ _ elem_u8sM .i64 (k : Int) (by omega) (by omega), sz_u8M]
    rfl
  unfold sliced at hrun
  refine ⟨_, hrun, ?_, ?_, ?_⟩
  · split
    · exact .inl (List.drop_eq_nil_of_le (by omega))
    · rcases hr with rfl | ⟨b, off, rfl, hcl⟩
      · exact .inl (by simp)
      · have e : (⟨b, off, none⟩ : Addr).add k = ⟨b, off + k, none⟩ := by unfold Addr.add; split <;> simp_all
        refine .inr ⟨b, off + k, by simp [e], fun i hi => ?_⟩
        rw [List.length_drop] at hi
        rw [Nat.add_assoc, hcl (k + i) (by omega)]
        unfold bt
        simp [List.getD]
  · split
    · intro h; omega
    · intro h
      have : a = none := by cases a <;> simp_all
      have := hn this
      omega
  · split
    · intro x hx; exact ⟨x, hx, rfl⟩
    · intro x hx
      cases a with
      | none => cases hx
      | some x0 =>
        simp at hx
        subst hx
        exact ⟨x0, rfl, by unfold Addr.add; split <;> rfl⟩
/-- x[:k] of bytes -/
theorem slice_uptoM {w : World} {a : Option Addr} {n c : Nat} {l : List (BitVec 8)} (hr : Row w a l) (hl : l.length = n) (hc : n ≤ c) (k : Nat) (hk : k ≤ n) (hn : a = none → c = 0) :
    ∃ y, (∀ W : World, (Instr.sliceAt 23 (.slice a n c) none (some (.int .i64 (k : Int))) none).run Try.prog W = .ok (.slice y k c) W) ∧ Row w y (l.take k) ∧ (y = none → c = 0) ∧ (∀ x, y = some x → ∃ x0, a = some x0 ∧ x.block = x0.block) := by
  have hrun : ∀ W : World, (Instr.sliceAt 23 (.slice a n c) none (some (.int .i64 (k : Int))) none).run Try.prog W = .ok (sliced a 0 k c 1) W := fun W => by
    rw [run_sliceAt_slice W _ _ _ _ _ elem_u8sM, run_slice_h W _ _ _ _ elem_u8sM .i64 (k : Int) (by omega) (by omega), sz_u8M]
    rfl
  have e : sliced a 0 k c 1 = .slice a k c := by
    unfold sliced
    rcases hr with rfl | ⟨b, off, rfl, hcl⟩
    · simp at hl
      split
      · simp
      · cases a with
        | none => simp
        | some x => obtain ⟨b, o, s⟩ := x; cases s <;> simp [Addr.add]
    · simp [Addr.add]
  rw [e] at hrun
  refine ⟨a, hrun, ?_, hn, fun x hx => ⟨x, hx, rfl⟩⟩
  rcases hr with rfl | ⟨b, off, rfl, hcl⟩
  · exact .inl (by simp)
  · refine .inr ⟨b, off, rfl, fun i hi => ?_⟩
    rw [List.length_take] at hi
    rw [hcl i (by omega)]
    unfold bt
    simp [List.getD, List.getElem?_take, show i < k by omega]
end Go.Proofs.Ytgjcgnmomdanaaa

