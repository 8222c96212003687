/- Letters that are sent, and doubled. -/
import Derived.Test.YtjelbekjmfnenaaWo6
import Derived.Maps.AppendAt
namespace Go.Proofs.Ytjelbekjmfnenaa
open Go.RowKit
set_option linter.unusedVariables false
set_option maxRecDepth 4000

theorem info_letter : (Try.prog.info? 141).map (fun i => (i.zero, i.size, i.bytes)) = some (some (.agg #[.int .i64 0, .int .i64 0, .slice none 0 0]), 3, 40) := by kernel_rfl
/-- append of one letter, as a step of a statement whose order is drawn -/
theorem step_append_letter {ops : Array Oper} {o : Oper} {a : Act} {w : World} {K : Act → World → Prop} {Q : Exit → Act → World → Prop} {E : Prop} (hg : o.guard = none) (s x : Operand)
    (ho : o.op = .call { callee := .builtin .append, args := #[s, x], argTypes := #[92, 92] }) (v : Value) (n : Nat) (vs : List Value) (hs : a.eval s = v) (hown : w.ownsRow 0 141 3 v n vs)
    (k : Nat) (u0 u1 u2 : Value) (hx : a.eval x = .slice (some ⟨k, 0, none⟩) 1 1) (hB : Blk w k 141 [u0, u1, u2]) (h0 : u0.oneCell' = true) (h1 : u1.oneCell' = true) (h2 : u2.oneCell' = true) (hmax : n ≤ 1000000)
    (next : ∀ (v' : Value) (w' : World), w'.ownsRow 0 141 3 v' (n + 1) (vs ++ [u0, u1, u2]) → w.grownBy w' v.ownBlock → (v'.ownBlock = v.ownBlock ∨ v'.ownBlock = some w.heap.size) → K (a.put o.dst v') w') :
    if Region.wanted o (yielded ops a.tmps) = true then Oper.wp Try.prog o a w K Q else E := by
  have hw : Region.wanted o (yielded ops a.tmps) = true := by simp [Region.wanted, hg]
  rw [if_pos hw]
  obtain ⟨i0, hi, hz0, hz1, hz2⟩ := info_parts info_letter
  obtain ⟨⟨c0, c1, c2⟩, -⟩ := wblk3 hB
  obtain ⟨v', w', hr, h2, h3, h4, h5⟩ := run_append_own_at (P := Try.prog) w 0 92 o.type 141 i0 (.agg #[.int .i64 0, .int .i64 0, .slice none 0 0]) 3 40 Try.underlying92 hi hz0 hz1 hz2 rfl (by decide) v n vs hown ⟨k, 0, none⟩ 1 1 [u0, u1, u2] rfl
    (fun j u hj => by
      match j, hj with
      | 0, hj => simp at hj; subst hj; simpa [Addr.add] using c0
      | 1, hj => simp at hj; subst hj; simpa [Addr.add] using c1
      | 2, hj => simp at hj; subst hj; simpa [Addr.add] using c2)
    (fun u hu => by simp at hu; rcases hu with rfl | rfl | rfl; exact h0; exact h1; exact h2) (by unfold maxLen; omega) (by omega) (Nat.zero_le _)
  unfold Oper.wp
  simp only [execOp, ho, resolve, invoke, builtin, Sem.run_bind, Sem.run_pure, Result.andThen_ok, List.map_toArray, List.map_cons, List.map_nil, hs, hx, hr]
  exact next v' w' h2 h3 h5

/-- what an append to the letters has done to memory, ahead of its store -/
structure Posted (w w2 w5 : World) (g : Nat) (p : Wp) (m : Wm) (fv fv' : Value) (vs us : List Value) (l : Lt) (ks : List Nat) : Prop where
  ok : (wo g p m).Ok w
  q : fv.ownBlock = p.q
  at' : WoAt w g p.c p.V fv vs m
  b2 : Below w.heap.size w w2
  own : w5.ownsRow 0 141 3 fv' (m.fl.length + 1) (vs ++ us)
  g5 : w2.grownBy w5 fv.ownBlock
  or : fv'.ownBlock = fv.ownBlock ∨ fv'.ownBlock = some w2.heap.size
  one : LsAt ks w [l] us
  far : ∀ k ∈ ks, k < w.heap.size ∧ k ∉ (wo g p m).W
section
variable {w w2 w5 : World} {g : Nat} {p : Wp} {m : Wm} {fv fv' : Value} {vs us : List Value} {l : Lt} {ks : List Nat}
theorem Posted.old (W : Posted w w2 w5 g p m fv fv' vs us l ks) (k : Nat) (hk : k < w.heap.size) (h2 : p.q ≠ some k) : w5.heap[k]? = w.heap[k]? := by
  have s2 := W.b2.size
  rw [W.g5.block k (by omega) (by rw [W.q]; exact fun e => h2 e.symm), W.b2.block k hk]
theorem Posted.blk (W : Posted w w2 w5 g p m fv fv' vs us l ks) : Blk w5 g 109 [fv, .int .i64 m.cut, .slice (some ⟨p.c, 0, none⟩) m.ck.length m.ck.length, .int .i64 m.rho, .int .i64 m.tk, .int .i64 m.lo, .int .u32 (b01 m.cl), .int .i32 0, .int .u32 0, .bool m.cl] := by
  have hB := W.at'.blk
  have hl := hB.lt
  unfold Blk at *
  rw [W.old g hl (wo_ne W.ok.holds.1).2.1]
  exact hB
theorem Posted.cell (W : Posted w w2 w5 g p m fv fv' vs us l ks) : w5.cell? ⟨g, 0, none⟩ = some fv ∧ w5.frozen? ⟨g, 0, none⟩ = false :=
  ⟨W.blk.cell (by simp [maxLen]) 0 (by simp), W.blk.frozen (by simp [maxLen]) 0⟩
theorem Posted.done (W : Posted w w2 w5 g p m fv fv' vs us l ks) : Turned (· ∈ (wo g p m).W) w (w5.setCell ⟨g, 0, none⟩ fv') ∧ (wo g ⟨p.c, fv'.ownBlock, ks ++ p.V⟩ { m with fl := m.fl ++ [l] }).Ok (w5.setCell ⟨g, 0, none⟩ fv') ∧
    ∀ k ∈ (wo g ⟨p.c, fv'.ownBlock, ks ++ p.V⟩ { m with fl := m.fl ++ [l] }).W, k ∈ (wo g p m).W ∨ w.heap.size ≤ k := by
  obtain ⟨n1, n2, n3⟩ := wo_ne W.ok.holds.1
  have hlt := W.ok.lt
  have hap := W.ok.apart
  have lg : g < w.heap.size := hlt g (.inl (by simp [wo]))
  have lc : p.c < w.heap.size := hlt p.c (.inl (by simp [wo]))
  have lq : ∀ k, p.q = some k → k < w.heap.size := fun k e => hlt k (.inl (by simp [wo, e]))
  have s2 := W.b2.size
  have s5 := W.g5.size
  have hset : ∀ k, k ≠ g → (w5.setCell ⟨g, 0, none⟩ fv').heap[k]? = w5.heap[k]? := fun k hk => Below.heap_setCell _ _ _ _ hk
  have hsz : (w5.setCell ⟨g, 0, none⟩ fv').heap.size = w5.heap.size := by simp [World.setCell]
  have hgv : ∀ k, fv'.ownBlock = some k → p.q = some k ∨ k = w2.heap.size := by
    intro k hk
    rcases W.or with e | e
    · rw [W.q] at e; rw [e] at hk; exact .inl hk
    · rw [e] at hk; exact .inr (by simpa using hk.symm)
  have lq' := World.ownsRow.lt W.own
  have hV : ∀ k ∈ ks ++ p.V, k < w.heap.size ∧ k ∉ (wo g p m).W := by
    intro k hk
    rcases List.mem_append.1 hk with hk | hk
    · exact W.far k hk
    · exact ⟨hlt k (.inr hk), fun e => hap k e hk⟩
  have hVs : ∀ k ∈ ks ++ p.V, (w5.setCell ⟨g, 0, none⟩ fv').heap[k]? = w.heap[k]? := by
    intro k hk
    obtain ⟨h1, h2⟩ := hV k hk
    simp only [wo, List.mem_cons, Option.mem_toList, not_or] at h2
    rw [hset k h2.1, W.old k h1 h2.2.2]
  refine ⟨⟨W.g5.os.trans W.b2.os, W.g5.tape.trans W.b2.tape, W.g5.output.trans W.b2.output, by omega, ?_⟩, wo_ok ⟨?_, fv', vs ++ us, rfl, ?_, ?_, ?_, ?_⟩ ?_ ?_, ?_⟩
  · intro k hk hn
    simp only [wo, List.mem_cons, Option.mem_toList, not_or] at hn
    rw [hset k hn.1, W.old k hk hn.2.2]
  · simp only [List.nodup_cons, List.mem_cons, Option.mem_toList, not_or]
    refine ⟨⟨n1, fun e => ?_⟩, fun e => ?_, ?_⟩
    · rcases hgv _ e with e' | e'; exact n2 e'; omega
    · rcases hgv _ e with e' | e'; exact n3 e'; omega
    · cases fv'.ownBlock <;> simp
  · have := W.blk.set 0 fv'
    simpa using this
  · have hc := W.at'.clocks
    unfold Blk at *
    rw [hset _ (Ne.symm n1), W.old _ lc n3]; exact hc
  · show World.ownsRow _ 0 _ 3 _ (m.fl ++ [l]).length _
    rw [List.length_append, List.length_singleton]
    refine ownsRow_same W.own (fun k hk => hset k ?_)
    rcases hgv k hk with e | e
    · intro e'; subst e'; exact n2 e
    · omega
  · exact LsAt.append ((W.at'.each.mono (fun k hk => List.mem_append_right ks hk)).same hVs) ((W.one.mono (fun k hk => List.mem_append_left p.V hk)).same hVs)
  · intro k hk
    rw [hsz]
    simp only [List.mem_cons, Option.mem_toList] at hk
    rcases hk with (rfl | rfl | hk) | hk
    · omega
    · omega
    · exact (lq' k hk).2
    · have := (hV k hk).1; omega
  · intro k hk hv
    obtain ⟨h1, h2⟩ := hV k hv
    simp only [wo, List.mem_cons, Option.mem_toList, not_or] at hk h2
    rcases hk with rfl | rfl | hk
    · exact h2.1 rfl
    · exact h2.2.1 rfl
    · rcases hgv _ hk with e | e
      · exact h2.2.2 e
      · omega
  · intro k hk
    simp only [wo, List.mem_cons, Option.mem_toList] at hk ⊢
    rcases hk with rfl | rfl | hk
    · exact .inl (.inl rfl)
    · exact .inl (.inr (.inl rfl))
    · rcases hgv _ hk with e | e
      · exact .inl (.inr (.inr e))
      · exact .inr (by omega)
end



end Go.Proofs.Ytjelbekjmfnenaa
