/- Two tables with the same in them. -/
import Derived.Test.YtkcbbaanlkpeiaaXDd25
import Derived.Deep.CutRange
namespace Go.Proofs.Ytkcbbaanlkpeiaa
open Go.RowKit
set_option linter.unusedVariables false
set_option linter.unusedSimpArgs false
set_option maxRecDepth 4000

theorem eqP12 (a b : Int) (w : World) : Sem.run Try.prog (Op.equalIn 9999 88 (.agg #[.int .i64 a, .int .i64 b]) (.agg #[.int .i64 a, .int .i64 b])) w = .ok true w := by
  have h0 : ∀ v0 v1 : Value, Sem.run Try.prog (part 3 #[v0, v1] 0) w = .ok v0 w := fun _ _ => run_part_plain w (by kernel_rfl) rfl
  have h1 : ∀ v0 v1 : Value, Sem.run Try.prog (part 2 #[v0, v1] 1) w = .ok v1 w := fun _ _ => run_part_plain w (by kernel_rfl) rfl
  have e0 : Sem.run Try.prog (Op.equalIn 9998 3 (.int .i64 a) (.int .i64 a)) w = .ok (a == a) w := run_equalIn_int w 9997 3 .i64 .i64 a a Try.underlying3
  have e1 : Sem.run Try.prog (Op.equalIn 9998 2 (.int .i64 b) (.int .i64 b)) w = .ok (b == b) w := run_equalIn_int w 9997 2 .i64 .i64 b b Try.underlying2
  have hf : (Try.prog.fieldsOf 88).toList.map (fun f => (f.name, f.type, f.offset)) = [("nexus", 3, 0), ("seq", 2, 1)] := by kernel_rfl
  rw [run_equalIn_struct w 9998 88 _ _ (by kernel_rfl) (by kernel_rfl)]
  generalize (Try.prog.fieldsOf 88).toList = fs at hf
  have hl2 : fs.length = 2 := by have := congrArg List.length hf; simpa using this
  obtain ⟨f0, f1, rfl⟩ : ∃ f0 f1, fs = [f0, f1] := by
    match fs, hl2 with
    | [f0, f1], _ => exact ⟨f0, f1, rfl⟩
  simp only [List.map_cons, List.map_nil, List.cons.injEq, Prod.mk.injEq, and_true] at hf
  obtain ⟨⟨n0, t0, o0⟩, n1, t1, o1⟩ := hf
  simp only [Op.eqFields, n0, t0, o0, n1, t1, o1, Sem.run_bind, h0, h1, e0, e1, Result.andThen_ok, Sem.run_ite]
  simp
theorem eqA12 (a b : Int) (s : ByteArray) (w : World) : Sem.run Try.prog (Op.equalIn 10000 90 (.agg #[.int .i64 a, .int .i64 b, .string s]) (.agg #[.int .i64 a, .int .i64 b, .string s])) w = .ok true w := by
  obtain ⟨i, hi, hz⟩ := Option.map_eq_some_iff.1 (show (Try.prog.info? 88).map (·.size) = some 2 by kernel_rfl)
  have hagg : (isAgg 88).run Try.prog w = .ok true w := by
    unfold isAgg
    rw [Sem.run_bind, run_underlying Try.underlying88 w]
    rfl
  have h0 : Sem.run Try.prog (part 88 #[.int .i64 a, .int .i64 b, .string s] 0) w = .ok (.agg #[.int .i64 a, .int .i64 b]) w := by
    simp [part, Sem.run_bind, hagg, sizeOf, typeInfo, hi, hz]
  have h1 : Sem.run Try.prog (part 9 #[.int .i64 a, .int .i64 b, .string s] 2) w = .ok (.string s) w := run_part_plain w (by kernel_rfl) rfl
  have e1 : Sem.run Try.prog (Op.equalIn 9999 9 (.string s) (.string s)) w = .ok (s.toList == s.toList) w := run_equalIn_string w 9998 9 s s Try.underlying9
  have hf : (Try.prog.fieldsOf 90).toList.map (fun f => (f.name, f.type, f.offset)) = [("at", 88, 0), ("bytes", 9, 2)] := by kernel_rfl
  rw [run_equalIn_struct w 9999 90 _ _ (by kernel_rfl) (by kernel_rfl)]
  generalize (Try.prog.fieldsOf 90).toList = fs at hf
  have hl2 : fs.length = 2 := by have := congrArg List.length hf; simpa using this
  obtain ⟨f0, f1, rfl⟩ : ∃ f0 f1, fs = [f0, f1] := by
    match fs, hl2 with
    | [f0, f1], _ => exact ⟨f0, f1, rfl⟩
  simp only [List.map_cons, List.map_nil, List.cons.injEq, Prod.mk.injEq, and_true] at hf
  obtain ⟨⟨n0, t0, o0⟩, n1, t1, o1⟩ := hf
  simp only [Op.eqFields, n0, t0, o0, n1, t1, o1, Sem.run_bind, h0, h1, eqP12, e1, Result.andThen_ok, Sem.run_ite]
  simp
set_option maxHeartbeats 4000000 in
theorem equal12_yes (v1 v2 : Value) (l : List An) (w : World) (h1 : AOwn w v1 l) (h2 : AOwn w v2 l) (hl : l.length ≤ 1000) :
    Calls Try.prog 72 #[v1, v2] w fun e w' => e = .returned (.bool true) ∧ Below w.heap.size w w' := by
  obtain ⟨a1, c1, rfl, hc1, hs1⟩ := h1.open
  obtain ⟨a2, c2, rfl, hc2, hs2⟩ := h2.open
  have HC : Hid _ := And.intro hs1 hs2
  have heq := eqA12
  clear hs1 hs2 h1 h2
  go_enter Try.func72, Try.ntmps72
  go_wp2_with fail
  go_loopw [13] (fun iv wr => ∃ (k : Nat), iv = .int .i64 k ∧ k ≤ l.length ∧ Below w.heap.size w wr) (fun iv _ => l.length - (intOf iv).toNat)
  case atStart => exact ⟨0, rfl, by omega, Below.refl _ _⟩
  case round =>
    obtain ⟨k, rfl, hk, hb⟩ := hrel
    by_cases hlt : k < l.length
    · obtain ⟨b1, rfl, -, x0, x1, x2⟩ := HC.out.1 k hlt
      obtain ⟨b2, rfl, -, y0, y1, y2⟩ := HC.out.2 k hlt
      have q1 : (k : Int) < l.length := by omega
      have u0 : ∀ W, Below wr.heap.size wr W → W.cell? ⟨b1, k * 3, none⟩ = some (.int .i64 l[k].1) := fun W hW => cell_later (below_then hb hW) x0
      have u1 : ∀ W, Below wr.heap.size wr W → W.cell? ⟨b1, k * 3 + 1, none⟩ = some (.int .i64 l[k].2.1) := fun W hW => cell_later (below_then hb hW) x1
      have u2 : ∀ W, Below wr.heap.size wr W → W.cell? ⟨b1, k * 3 + 2, none⟩ = some (.string l[k].2.2) := fun W hW => cell_later (below_then hb hW) x2
      have z0 : ∀ W, Below wr.heap.size wr W → W.cell? ⟨b2, k * 3, none⟩ = some (.int .i64 l[k].1) := fun W hW => cell_later (below_then hb hW) y0
      have z1 : ∀ W, Below wr.heap.size wr W → W.cell? ⟨b2, k * 3 + 1, none⟩ = some (.int .i64 l[k].2.1) := fun W hW => cell_later (below_then hb hW) y1
      have z2 : ∀ W, Below wr.heap.size wr W → W.cell? ⟨b2, k * 3 + 2, none⟩ = some (.string l[k].2.2) := fun W hW => cell_later (below_then hb hW) y2
      have F : Hid (Below w.heap.size w wr.drew) := below_then hb (Below.refl _ _).drew
      generalize l[k].1 = p1 at *
      generalize l[k].2.1 = p2 at *
      generalize l[k].2.2 = p3 at *
      clear x0 x1 x2 y0 y1 y2 hb
      go_wp2_with fail
      refine e_begin (S := fun W => Below wr.heap.size wr W) 8 (by kernel_rfl) ((Below.refl _ _).drew) (fun hS => ?_)
      refine e_take (i := 0) (v := ?_) [2, 3, 8] rfl (by kernel_rfl) (by kernel_rfl) (by kernel_rfl) (by kernel_rfl) (by exact fun _ _ _ h => h) (by rfl) ?_ hS ?_
      rotate_left
      · ((intro w hSw; (try dsimp only at hSw); go_simp) <;> with_reducible rfl)
      (try simp only [Act.put, List.setIfInBounds_toArray, List.set_cons_zero, List.set_cons_succ])
      refine e_take (i := 1) (v := ?_) [2, 3, 8] rfl (by kernel_rfl) (by kernel_rfl) (by kernel_rfl) (by kernel_rfl) (by exact fun _ _ _ h => h) (by rfl) ?_ hS ?_
      rotate_left
      · ((intro w hSw; (try dsimp only at hSw); go_simp) <;> with_reducible rfl)
      (try simp only [Act.put, List.setIfInBounds_toArray, List.set_cons_zero, List.set_cons_succ])
      refine e_take (i := 2) (v := ?_) [3, 8] rfl (by kernel_rfl) (by kernel_rfl) (by kernel_rfl) (by kernel_rfl) (by exact fun _ _ _ h => h) (by rfl) ?_ hS ?_
      rotate_left
      · ((intro w hSw; (try dsimp only at hSw); go_simp) <;> with_reducible rfl)
      (try simp only [Act.put, List.setIfInBounds_toArray, List.set_cons_zero, List.set_cons_succ])
      refine e_take (i := 3) (v := ?_) [8] rfl (by kernel_rfl) (by kernel_rfl) (by kernel_rfl) (by kernel_rfl) (by exact fun _ _ _ h => h) (by rfl) ?_ hS ?_
      rotate_left
      · ((intro w hSw; (try dsimp only at hSw); go_simp) <;> with_reducible rfl)
      (try simp only [Act.put, List.setIfInBounds_toArray, List.set_cons_zero, List.set_cons_succ])
      refine e_take (i := 4) (v := ?_) [6, 7, 8] rfl (by kernel_rfl) (by kernel_rfl) (by kernel_rfl) (by kernel_rfl) (by exact fun _ _ _ h => h) (by rfl) ?_ hS ?_
      rotate_left
      · ((intro w hSw; (try dsimp only at hSw); go_simp) <;> with_reducible rfl)
      (try simp only [Act.put, List.setIfInBounds_toArray, List.set_cons_zero, List.set_cons_succ])
      refine e_take (i := 5) (v := ?_) [6, 7, 8] rfl (by kernel_rfl) (by kernel_rfl) (by kernel_rfl) (by kernel_rfl) (by exact fun _ _ _ h => h) (by rfl) ?_ hS ?_
      rotate_left
      · ((intro w hSw; (try dsimp only at hSw); go_simp) <;> with_reducible rfl)
      (try simp only [Act.put, List.setIfInBounds_toArray, List.set_cons_zero, List.set_cons_succ])
      refine e_take (i := 6) (v := ?_) [7, 8] rfl (by kernel_rfl) (by kernel_rfl) (by kernel_rfl) (by kernel_rfl) (by exact fun _ _ _ h => h) (by rfl) ?_ hS ?_
      rotate_left
      · ((intro w hSw; (try dsimp only at hSw); go_simp) <;> with_reducible rfl)
      (try simp only [Act.put, List.setIfInBounds_toArray, List.set_cons_zero, List.set_cons_succ])
      refine e_take (i := 7) (v := ?_) [8] rfl (by kernel_rfl) (by kernel_rfl) (by kernel_rfl) (by kernel_rfl) (by exact fun _ _ _ h => h) (by rfl) ?_ hS ?_
      rotate_left
      · ((intro w hSw; (try dsimp only at hSw); go_simp) <;> with_reducible rfl)
      (try simp only [Act.put, List.setIfInBounds_toArray, List.set_cons_zero, List.set_cons_succ])
      clear hS
      refine e_last (z := 8) rfl (by kernel_rfl) (fun K hK => ?_)
      go_simp
      refine hK.out _ _ ?_
      clear hK K
      refine e_done (by kernel_rfl) ?_ _
      clear u0 u1 u2 z0 z1 z2
      go_wp2
      go_roundw
      case rel => exact ⟨k + 1, by go_num, by omega, F.out⟩
      case measure => simp [intOf]; omega
    · have q1 : ¬ (k : Int) < l.length := by omega
      have F : Hid _ := hb
      clear hb
      go_wp2
      go_ret
      first | exact ⟨rfl, F.out⟩ | exact F.out
set_option maxHeartbeats 4000000 in
theorem same12_mem (g1 g2 q : Nat) (fl : Int) (v1 v2 : Value) (l : List An) (w : World) (h1 : MemAt w g1 q fl v1 l) (h2 : MemAt w g2 q fl v2 l) :
    Calls Try.prog 52 #[.pointer (some ⟨g1, q * 2, none⟩), .pointer (some ⟨g2, q * 2, none⟩)] w fun e w' => e = .returned (.bool true) ∧ Below w.heap.size w w' := by
  have HE : Hid (∀ W, Below w.heap.size w W → Calls Try.prog 72 #[v1, v2] W fun e w' => e = .returned (.bool true) ∧ Below W.heap.size W w') := fun W hW => equal12_yes v1 v2 l W (h1.own.later hW) (h2.own.later hW) h1.len
  have c1 : ∀ W, Below w.heap.size w W → W.cell? ⟨g1, q * 2, none⟩ = some (.int .i64 fl) := fun W hW => cell_later hW h1.floor
  have c2 : ∀ W, Below w.heap.size w W → W.cell? ⟨g2, q * 2, none⟩ = some (.int .i64 fl) := fun W hW => cell_later hW h2.floor
  have c3 : ∀ W, Below w.heap.size w W → W.cell? ⟨g1, q * 2 + 1, none⟩ = some v1 := fun W hW => cell_later hW h1.list
  have c4 : ∀ W, Below w.heap.size w W → W.cell? ⟨g2, q * 2 + 1, none⟩ = some v2 := fun W hW => cell_later hW h2.list
  obtain ⟨a1, k1, hv1, -, -⟩ := h1.own.open
  obtain ⟨a2, k2, hv2, -, -⟩ := h2.own.open
  subst hv1 hv2
  clear h1 h2
  go_enter Try.func52, Try.ntmps52
  go_wp2_with fail
  refine e_begin (S := fun W => Below w.heap.size w W) 22 (by kernel_rfl) ((Below.refl _ _).drew) (fun hS => ?_)
  refine e_take (i := 0) (v := ?_) [1, 2, 3, 8, 9, 21, 22] rfl (by kernel_rfl) (by kernel_rfl) (by kernel_rfl) (by kernel_rfl) (by exact fun _ _ _ h => h) (by rfl) ?_ hS ?_
  rotate_left
  · ((intro w hSw; (try dsimp only at hSw); go_simp) <;> with_reducible rfl)
  (try simp only [Act.put, List.setIfInBounds_toArray, List.set_cons_zero, List.set_cons_succ])
  refine e_take (i := 1) (v := ?_) [2, 3, 8, 9, 21, 22] rfl (by kernel_rfl) (by kernel_rfl) (by kernel_rfl) (by kernel_rfl) (by exact fun _ _ _ h => h) (by rfl) ?_ hS ?_
  rotate_left
  · ((intro w hSw; (try dsimp only at hSw); go_simp) <;> with_reducible rfl)
  (try simp only [Act.put, List.setIfInBounds_toArray, List.set_cons_zero, List.set_cons_succ])
  refine e_take (i := 2) (v := ?_) [3, 8, 9, 21, 22] rfl (by kernel_rfl) (by kernel_rfl) (by kernel_rfl) (by kernel_rfl) (by exact fun _ _ _ h => h) (by rfl) ?_ hS ?_
  rotate_left
  · ((intro w hSw; (try dsimp only at hSw); go_simp) <;> with_reducible rfl)
  (try simp only [Act.put, List.setIfInBounds_toArray, List.set_cons_zero, List.set_cons_succ])
  refine e_take (i := 3) (v := ?_) [8, 9, 21, 22] rfl (by kernel_rfl) (by kernel_rfl) (by kernel_rfl) (by kernel_rfl) (by exact fun _ _ _ h => h) (by rfl) ?_ hS ?_
  rotate_left
  · ((intro w hSw; (try dsimp only at hSw); go_simp) <;> with_reducible rfl)
  (try simp only [Act.put, List.setIfInBounds_toArray, List.set_cons_zero, List.set_cons_succ])
  refine e_take (i := 4) (v := ?_) [5, 6, 7, 8, 9, 21, 22] rfl (by kernel_rfl) (by kernel_rfl) (by kernel_rfl) (by kernel_rfl) (by exact fun _ _ _ h => h) (by rfl) ?_ hS ?_
  rotate_left
  · ((intro w hSw; (try dsimp only at hSw); go_simp) <;> with_reducible rfl)
  (try simp only [Act.put, List.setIfInBounds_toArray, List.set_cons_zero, List.set_cons_succ])
  refine e_take (i := 5) (v := ?_) [6, 7, 8, 9, 21, 22] rfl (by kernel_rfl) (by kernel_rfl) (by kernel_rfl) (by kernel_rfl) (by exact fun _ _ _ h => h) (by rfl) ?_ hS ?_
  rotate_left
  · ((intro w hSw; (try dsimp only at hSw); go_simp) <;> with_reducible rfl)
  (try simp only [Act.put, List.setIfInBounds_toArray, List.set_cons_zero, List.set_cons_succ])
  refine e_take (i := 6) (v := ?_) [7, 8, 9, 21, 22] rfl (by kernel_rfl) (by kernel_rfl) (by kernel_rfl) (by kernel_rfl) (by exact fun _ _ _ h => h) (by rfl) ?_ hS ?_
  rotate_left
  · ((intro w hSw; (try dsimp only at hSw); go_simp) <;> with_reducible rfl)
  (try simp only [Act.put, List.setIfInBounds_toArray, List.set_cons_zero, List.set_cons_succ])
  refine e_take (i := 7) (v := ?_) [8, 9, 21, 22] rfl (by kernel_rfl) (by kernel_rfl) (by kernel_rfl) (by kernel_rfl) (by exact fun _ _ _ h => h) (by rfl) ?_ hS ?_
  rotate_left
  · ((intro w hSw; (try dsimp only at hSw); go_simp) <;> with_reducible rfl)
  (try simp only [Act.put, List.setIfInBounds_toArray, List.set_cons_zero, List.set_cons_succ])
  refine e_take (i := 8) (v := ?_) [9, 21, 22] rfl (by kernel_rfl) (by kernel_rfl) (by kernel_rfl) (by kernel_rfl) (by exact fun _ _ _ h => h) (by rfl) ?_ hS ?_
  rotate_left
  · ((intro w hSw; (try dsimp only at hSw); go_simp) <;> with_reducible rfl)
  (try simp only [Act.put, List.setIfInBounds_toArray, List.set_cons_zero, List.set_cons_succ])
  refine e_take (i := 9) (v := ?_) [21, 22] rfl (by kernel_rfl) (by kernel_rfl) (by kernel_rfl) (by kernel_rfl) (by exact fun _ _ _ h => h) (by rfl) ?_ hS ?_
  rotate_left
  · ((intro w hSw; (try dsimp only at hSw); go_simp) <;> with_reducible rfl)
  (try simp only [Act.put, List.setIfInBounds_toArray, List.set_cons_zero, List.set_cons_succ])
  refine e_take (i := 10) (v := ?_) [11, 12, 13, 14, 20, 21, 22] rfl (by kernel_rfl) (by kernel_rfl) (by kernel_rfl) (by kernel_rfl) (by exact fun _ _ _ h => h) (by rfl) ?_ hS ?_
  rotate_left
  · ((intro w hSw; (try dsimp only at hSw); go_simp) <;> with_reducible rfl)
  (try simp only [Act.put, List.setIfInBounds_toArray, List.set_cons_zero, List.set_cons_succ])
  refine e_take (i := 11) (v := ?_) [12, 13, 14, 20, 21, 22] rfl (by kernel_rfl) (by kernel_rfl) (by kernel_rfl) (by kernel_rfl) (by exact fun _ _ _ h => h) (by rfl) ?_ hS ?_
  rotate_left
  · ((intro w hSw; (try dsimp only at hSw); go_simp) <;> with_reducible rfl)
  (try simp only [Act.put, List.setIfInBounds_toArray, List.set_cons_zero, List.set_cons_succ])
  refine e_take (i := 12) (v := ?_) [13, 14, 20, 21, 22] rfl (by kernel_rfl) (by kernel_rfl) (by kernel_rfl) (by kernel_rfl) (by exact fun _ _ _ h => h) (by rfl) ?_ hS ?_
  rotate_left
  · ((intro w hSw; (try dsimp only at hSw); go_simp) <;> with_reducible rfl)
  (try simp only [Act.put, List.setIfInBounds_toArray, List.set_cons_zero, List.set_cons_succ])
  refine e_take (i := 13) (v := ?_) [14, 20, 21, 22] rfl (by kernel_rfl) (by kernel_rfl) (by kernel_rfl) (by kernel_rfl) (by exact fun _ _ _ h => h) (by rfl) ?_ hS ?_
  rotate_left
  · ((intro w hSw; (try dsimp only at hSw); go_simp) <;> with_reducible rfl)
  (try simp only [Act.put, List.setIfInBounds_toArray, List.set_cons_zero, List.set_cons_succ])
  refine e_take (i := 14) (v := ?_) [20, 21, 22] rfl (by kernel_rfl) (by kernel_rfl) (by kernel_rfl) (by kernel_rfl) (by exact fun _ _ _ h => h) (by rfl) ?_ hS ?_
  rotate_left
  · ((intro w hSw; (try dsimp only at hSw); go_simp) <;> with_reducible rfl)
  (try simp only [Act.put, List.setIfInBounds_toArray, List.set_cons_zero, List.set_cons_succ])
  refine e_take (i := 15) (v := ?_) [16, 17, 18, 19, 20, 21, 22] rfl (by kernel_rfl) (by kernel_rfl) (by kernel_rfl) (by kernel_rfl) (by exact fun _ _ _ h => h) (by rfl) ?_ hS ?_
  rotate_left
  · ((intro w hSw; (try dsimp only at hSw); go_simp) <;> with_reducible rfl)
  (try simp only [Act.put, List.setIfInBounds_toArray, List.set_cons_zero, List.set_cons_succ])
  refine e_take (i := 16) (v := ?_) [17, 18, 19, 20, 21, 22] rfl (by kernel_rfl) (by kernel_rfl) (by kernel_rfl) (by kernel_rfl) (by exact fun _ _ _ h => h) (by rfl) ?_ hS ?_
  rotate_left
  · ((intro w hSw; (try dsimp only at hSw); go_simp) <;> with_reducible rfl)
  (try simp only [Act.put, List.setIfInBounds_toArray, List.set_cons_zero, List.set_cons_succ])
  refine e_take (i := 17) (v := ?_) [18, 19, 20, 21, 22] rfl (by kernel_rfl) (by kernel_rfl) (by kernel_rfl) (by kernel_rfl) (by exact fun _ _ _ h => h) (by rfl) ?_ hS ?_
  rotate_left
  · ((intro w hSw; (try dsimp only at hSw); go_simp) <;> with_reducible rfl)
  (try simp only [Act.put, List.setIfInBounds_toArray, List.set_cons_zero, List.set_cons_succ])
  refine e_take (i := 18) (v := ?_) [19, 20, 21, 22] rfl (by kernel_rfl) (by kernel_rfl) (by kernel_rfl) (by kernel_rfl) (by exact fun _ _ _ h => h) (by rfl) ?_ hS ?_
  rotate_left
  · ((intro w hSw; (try dsimp only at hSw); go_simp) <;> with_reducible rfl)
  (try simp only [Act.put, List.setIfInBounds_toArray, List.set_cons_zero, List.set_cons_succ])
  refine e_take (i := 19) (v := ?_) [20, 21, 22] rfl (by kernel_rfl) (by kernel_rfl) (by kernel_rfl) (by kernel_rfl) (by exact fun _ _ _ h => h) (by rfl) ?_ hS ?_
  rotate_left
  · ((intro w hSw; (try dsimp only at hSw); go_simp) <;> with_reducible rfl)
  (try simp only [Act.put, List.setIfInBounds_toArray, List.set_cons_zero, List.set_cons_succ])
  refine e_one (i := 20) rfl (by kernel_rfl) (fun K hK => ?_)
  go_simp
  refine (Calls.mono (HE.out _ (Below.refl _ _).drew)) ?_
  rintro e x1 ⟨rfl, b1⟩
  have C1 : Below w.heap.size w x1 := below_then (Below.refl _ _).drew b1
  go_wp2_with fail
  refine hK.out _ _ (C1) (fun hS => ?_)
  clear hK K
  refine e_take (i := 21) (v := ?_) [22] rfl (by kernel_rfl) (by kernel_rfl) (by kernel_rfl) (by kernel_rfl) (by exact fun _ _ _ h => h) (by rfl) ?_ hS ?_
  rotate_left
  · ((intro w hSw; (try dsimp only at hSw); go_simp) <;> with_reducible rfl)
  (try simp only [Act.put, List.setIfInBounds_toArray, List.set_cons_zero, List.set_cons_succ])
  clear hS
  refine e_last (z := 22) rfl (by kernel_rfl) (fun K hK => ?_)
  go_simp
  refine hK.out _ _ ?_
  clear hK K
  refine e_done (by kernel_rfl) ?_ _
  have F : Hid _ := C1
  clear c1 c2 c3 c4
  go_wp2
  go_ret
  exact ⟨rfl, F.out⟩
set_option maxHeartbeats 4000000 in
theorem tbSame_yes (g1 g2 : Nat) (fs1 fs2 : List Nx) (w : World) (h1 : TbP w g1 fs1) (h2 : TbP w g2 fs2) (he : fsm fs1 = fsm fs2) :
    Calls Try.prog 21 #[.pointer (some ⟨g1, 0, none⟩), .pointer (some ⟨g2, 0, none⟩)] w fun e w' => e = .returned (.bool true) ∧ Below w.heap.size w w' := by
  have HM : Hid (∀ W k, Below w.heap.size w W → k < 16 → Calls Try.prog 52 #[.pointer (some ⟨g1, k * 2, none⟩), .pointer (some ⟨g2, k * 2, none⟩)] W fun e w' => e = .returned (.bool true) ∧ Below W.heap.size W w') := fun W k hW hk => by
    obtain ⟨f1, v1, l1, e1⟩ := h1.row hk
    obtain ⟨f2, v2, l2, e2⟩ := h2.row hk
    have q1 := fsm_at e1
    have q2 := fsm_at e2
    rw [he, q2] at q1
    simp only [Prod.mk.injEq] at q1
    obtain ⟨rfl, rfl⟩ := q1
    exact same12_mem g1 g2 k _ v1 v2 _ W (((tb_ok h1).later hW).holds.mem e1) (((tb_ok h2).later hW).holds.mem e2)
  have n1 : ∀ g : Nat, (binOp .eql 24 (.pointer (some ⟨g, 0, none⟩)) (.pointer none)).run Try.prog w = .ok (.bool false) w := fun g => by first | rfl | kernel_rfl
  clear h1 h2 he
  go_enter Try.func21, Try.ntmps21
  go_wp2_with fail
  clear n1
  go_loopw [15] (fun iv wr => ∃ (k : Nat), iv = .int .i64 k ∧ k ≤ 16 ∧ Below w.heap.size w wr) (fun iv _ => 16 - (intOf iv).toNat)
  case atStart => exact ⟨0, rfl, by omega, Below.refl _ _⟩
  case round =>
    obtain ⟨k, rfl, hk, hb⟩ := hrel
    by_cases hlt : k < 16
    · have q1 : (k : Int) < 16 := by omega
      have HS : Hid (∀ W, Below wr.heap.size wr W → _) := fun W hW => HM.out W k (below_then hb hW) hlt
      have HB : Hid _ := hb
      clear hb
      go_wp2_with fail
      refine e_begin (S := fun W => Below wr.heap.size wr W) 11 (by kernel_rfl) ((Below.refl _ _).drew) (fun hS => ?_)
      refine e_take (i := 0) (v := ?_) [2, 3, 4, 10, 11] rfl (by kernel_rfl) (by kernel_rfl) (by kernel_rfl) (by kernel_rfl) (by exact fun _ _ _ h => h) (by rfl) ?_ hS ?_
      rotate_left
      · ((intro w hSw; (try dsimp only at hSw); go_simp) <;> with_reducible rfl)
      (try simp only [Act.put, List.setIfInBounds_toArray, List.set_cons_zero, List.set_cons_succ])
      refine e_take (i := 1) (v := ?_) [4, 10, 11] rfl (by kernel_rfl) (by kernel_rfl) (by kernel_rfl) (by kernel_rfl) (by exact fun _ _ _ h => h) (by rfl) ?_ hS ?_
      rotate_left
      · ((intro w hSw; (try dsimp only at hSw); go_simp) <;> with_reducible rfl)
      (try simp only [Act.put, List.setIfInBounds_toArray, List.set_cons_zero, List.set_cons_succ])
      refine e_take (i := 2) (v := ?_) [3, 4, 10, 11] rfl (by kernel_rfl) (by kernel_rfl) (by kernel_rfl) (by kernel_rfl) (by exact fun _ _ _ h => h) (by rfl) ?_ hS ?_
      rotate_left
      · ((intro w hSw; (try dsimp only at hSw); go_simp) <;> with_reducible rfl)
      (try simp only [Act.put, List.setIfInBounds_toArray, List.set_cons_zero, List.set_cons_succ])
      refine e_take (i := 3) (v := ?_) [4, 10, 11] rfl (by kernel_rfl) (by kernel_rfl) (by kernel_rfl) (by kernel_rfl) (by exact fun _ _ _ h => h) (by rfl) ?_ hS ?_
      rotate_left
      · ((intro w hSw; (try dsimp only at hSw); go_simp) <;> with_reducible rfl)
      (try simp only [Act.put, List.setIfInBounds_toArray, List.set_cons_zero, List.set_cons_succ])
      refine e_take (i := 4) (v := ?_) [10, 11] rfl (by kernel_rfl) (by kernel_rfl) (by kernel_rfl) (by kernel_rfl) (by exact fun _ _ _ h => h) (by rfl) ?_ hS ?_
      rotate_left
      · ((intro w hSw; (try dsimp only at hSw); go_simp) <;> with_reducible rfl)
      (try simp only [Act.put, List.setIfInBounds_toArray, List.set_cons_zero, List.set_cons_succ])
      refine e_take (i := 5) (v := ?_) [7, 8, 9, 10, 11] rfl (by kernel_rfl) (by kernel_rfl) (by kernel_rfl) (by kernel_rfl) (by exact fun _ _ _ h => h) (by rfl) ?_ hS ?_
      rotate_left
      · ((intro w hSw; (try dsimp only at hSw); go_simp) <;> with_reducible rfl)
      (try simp only [Act.put, List.setIfInBounds_toArray, List.set_cons_zero, List.set_cons_succ])
      refine e_take (i := 6) (v := ?_) [9, 10, 11] rfl (by kernel_rfl) (by kernel_rfl) (by kernel_rfl) (by kernel_rfl) (by exact fun _ _ _ h => h) (by rfl) ?_ hS ?_
      rotate_left
      · ((intro w hSw; (try dsimp only at hSw); go_simp) <;> with_reducible rfl)
      (try simp only [Act.put, List.setIfInBounds_toArray, List.set_cons_zero, List.set_cons_succ])
      refine e_take (i := 7) (v := ?_) [8, 9, 10, 11] rfl (by kernel_rfl) (by kernel_rfl) (by kernel_rfl) (by kernel_rfl) (by exact fun _ _ _ h => h) (by rfl) ?_ hS ?_
      rotate_left
      · ((intro w hSw; (try dsimp only at hSw); go_simp) <;> with_reducible rfl)
      (try simp only [Act.put, List.setIfInBounds_toArray, List.set_cons_zero, List.set_cons_succ])
      refine e_take (i := 8) (v := ?_) [9, 10, 11] rfl (by kernel_rfl) (by kernel_rfl) (by kernel_rfl) (by kernel_rfl) (by exact fun _ _ _ h => h) (by rfl) ?_ hS ?_
      rotate_left
      · ((intro w hSw; (try dsimp only at hSw); go_simp) <;> with_reducible rfl)
      (try simp only [Act.put, List.setIfInBounds_toArray, List.set_cons_zero, List.set_cons_succ])
      refine e_take (i := 9) (v := ?_) [10, 11] rfl (by kernel_rfl) (by kernel_rfl) (by kernel_rfl) (by kernel_rfl) (by exact fun _ _ _ h => h) (by rfl) ?_ hS ?_
      rotate_left
      · ((intro w hSw; (try dsimp only at hSw); go_simp) <;> with_reducible rfl)
      (try simp only [Act.put, List.setIfInBounds_toArray, List.set_cons_zero, List.set_cons_succ])
      refine e_one (i := 10) rfl (by kernel_rfl) (fun K hK => ?_)
      go_simp
      refine (Calls.mono (HS.out _ (Below.refl _ _).drew)) ?_
      rintro e x1 ⟨rfl, b1⟩
      have C1 : Below wr.heap.size wr x1 := below_then (Below.refl _ _).drew b1
      go_wp2_with fail
      refine hK.out _ _ (C1) (fun hS => ?_)
      clear hK K
      clear hS
      refine e_last (z := 11) rfl (by kernel_rfl) (fun K hK => ?_)
      go_simp
      refine hK.out _ _ ?_
      clear hK K
      refine e_done (by kernel_rfl) ?_ _
      have F : Hid _ := below_then HB.out C1
      go_wp2
      go_roundw
      case rel => exact ⟨k + 1, by go_num, by omega, F.out⟩
      case measure => simp [intOf]; omega
    · obtain rfl : k = 16 := by omega
      have F : Hid _ := hb
      clear hb
      rw [show ((16 : Nat) : Int) = 16 from rfl]
      go_wp2
      go_ret
      first | exact ⟨rfl, F.out⟩ | exact F.out
end Go.Proofs.Ytkcbbaanlkpeiaa

