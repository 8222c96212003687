/- Up to when a round holds; what is remembered. -/
import Derived.Test.YtjelbekjmfnenaaLs3
import Derived.BigQuiet
namespace Go.Proofs.Ytjelbekjmfnenaa
open Go.RowKit Go.Shelf
set_option linter.unusedVariables false
set_option maxRecDepth 4000

/-- a lease: its span, and what was sent -/
def lsOb (g : Nat) (q : Option Nat) (s : Int) (l : List (Int × Int)) : Ob := qu 70 72 g q [.int .i64 s] l
structure LsWf (s : Int) (l : List (Int × Int)) : Prop where
  full : l.length ≤ 100
  each : ∀ x ∈ l, 1 ≤ x.1 ∧ x.1 ≤ 1152921504606846976 ∧ 0 ≤ x.2 ∧ x.2 ≤ 1099511627776
  rise : l.Pairwise (fun a b => a.1 < b.1 ∧ a.2 ≤ b.2)
  lo : -2000 ≤ s
  hi : s ≤ 1000
theorem lastOf_mem (l : List (Int × Int)) (r : Int) : lastOf l r = (0, 0) ∨ (lastOf l r ∈ l ∧ (lastOf l r).1 ≤ r) := by
  unfold lastOf
  cases h : l.reverse.find? (fun s => decide (s.1 ≤ r)) with
  | none => exact .inl rfl
  | some x =>
    refine .inr ⟨?_, ?_⟩
    · simpa using List.mem_of_find?_eq_some h
    · simpa using List.find?_some h
theorem LsWf.last {s : Int} {l : List (Int × Int)} (h : LsWf s l) (r : Int) : 0 ≤ (lastOf l r).1 ∧ (lastOf l r).1 ≤ 1152921504606846976 ∧ 0 ≤ (lastOf l r).2 ∧ (lastOf l r).2 ≤ 1099511627776 := by
  rcases lastOf_mem l r with e | ⟨e, -⟩
  · rw [e]; simp
  · have := h.each _ e; omega
theorem eqS (a b c d : Int) (w : World) : Sem.run Try.prog (Op.equalIn 10000 72 (.agg #[.int .i64 a, .int .i64 b]) (.agg #[.int .i64 c, .int .i64 d])) w = .ok (a == c && b == d) w := by
  have hu : Try.prog.underlying 2 = some (.int .i64) := by kernel_rfl
  have hpk : Try.prog.plainKey 2 = true := by kernel_rfl
  have he : ∀ a b : Int, Sem.run Try.prog (Op.equalIn 9999 2 (.int .i64 a) (.int .i64 b)) w = .ok (a == b) w := fun a b => run_equalIn_int w 9998 2 .i64 .i64 a b hu
  have h0 : ∀ v0 v1 : Value, Sem.run Try.prog (part 2 #[v0, v1] 0) w = .ok v0 w := fun _ _ => run_part_plain w hpk rfl
  have h1 : ∀ v0 v1 : Value, Sem.run Try.prog (part 2 #[v0, v1] 1) w = .ok v1 w := fun _ _ => run_part_plain w hpk rfl
  have hf : (Try.prog.fieldsOf 72).toList.map (fun f => (f.name, f.type, f.offset)) = [("round", 2, 0), ("at", 2, 1)] := by kernel_rfl
  rw [run_equalIn_struct w 9999 72 _ _ (by kernel_rfl) (by kernel_rfl)]
  generalize (Try.prog.fieldsOf 72).toList = fs at hf
  have hl2 : fs.length = 2 := by have := congrArg List.length hf; simpa using this
  obtain ⟨f0, f1, rfl⟩ : ∃ f0 f1, fs = [f0, f1] := by
    match fs, hl2 with
    | [f0, f1], _ => exact ⟨f0, f1, rfl⟩
  simp only [List.map_cons, List.map_nil, List.cons.injEq, Prod.mk.injEq, and_true] at hf
  obtain ⟨⟨n0, t0, o0⟩, n1, t1, o1⟩ := hf
  simp only [Op.eqFields, n0, t0, o0, n1, t1, o1, Sem.run_bind, h0, h1, he, Result.andThen_ok, Sem.run_ite]
  cases hac : (a == c) <;> cases hbd : (b == d) <;> simp
theorem lsupTo_any (g : Nat) (q : Option Nat) (s : Int) (l : List (Int × Int)) (r : Int) (w : World) (h : (lsOb g q s l).Ok w) (hl : l.length ≤ 1000) :
    Calls Try.prog 35 #[.pointer (some ⟨g, 0, none⟩), .int .i64 r] w fun e w' => e = .returned (.agg #[.int .i64 (lastOf l r).1, .int .i64 (lastOf l r).2]) ∧ Below w.heap.size w w' := by
  have b1 : Below w.heap.size w (w.alloc (.cells #[.int .i64 r] 2)) := (Below.refl _ _).alloc (Nat.le_refl _) _
  have B1 := Blk.new' w 2 [.int .i64 r]
  have b2 : Below (w.alloc (.cells #[.int .i64 r] 2)).heap.size (w.alloc (.cells #[.int .i64 r] 2)) ((w.alloc (.cells #[.int .i64 r] 2)).alloc (.cells #[.int .i64 0, .int .i64 0] 72)) := (Below.refl _ _).alloc (Nat.le_refl _) _
  have B2 := Blk.new' (w.alloc (.cells #[.int .i64 r] 2)) 72 [.int .i64 0, .int .i64 0]
  have b12 := below_then b1 b2
  have HL : Hid _ := lslast_any g q s l w.heap.size r _ (h.later b12) hl (B1.laterB b2)
  have s1 : (w.alloc (.cells #[.int .i64 r] 2)).heap.size = w.heap.size + 1 := by simp
  have F : Hid _ := And.intro b12 B2
  clear b1 b2 B1 B2 b12 h
  go_enter Try.func35, Try.ntmps35
  go_wp2_with fail
  generalize w.alloc (.cells #[.int .i64 r] 2) = w1 at *
  generalize w1.alloc (.cells #[.int .i64 0, .int .i64 0] 72) = w2 at *
  refine (Calls.mono HL.out) ?_
  rintro e w3 ⟨rfl, b3⟩
  obtain ⟨b12, B2⟩ := F.out
  have B3 := B2.laterB b3
  rw [s1] at B3
  have r0 := blk_at B3 0
  have r1 := blk_at B3 1
  have f0 := blk_frozen B3 0
  have f1 := blk_frozen B3 1
  simp only [List.getElem?_cons_zero, List.getElem?_cons_succ] at r0 r1
  have bb := below_then b12 b3
  generalize hx0 : (lastOf l r).1 = x0 at *
  generalize hx1 : (lastOf l r).2 = x1 at *
  have R3 := (B3.set 0 (.int .i64 x0)).set 1 (.int .i64 x1)
  simp only [List.set_cons_zero, List.set_cons_succ] at R3
  have b4 : Below w.heap.size w ((w3.setCell ⟨w.heap.size + 1, 0, none⟩ (.int .i64 x0)).setCell ⟨w.heap.size + 1, 1, none⟩ (.int .i64 x1)) := (bb.setCell (p := ⟨w.heap.size + 1, 0, none⟩) (by simp) _).setCell (p := ⟨w.heap.size + 1, 1, none⟩) (by simp) _
  have G : Hid _ := And.intro R3 b4
  clear R3 b4 bb B2 B3 b12 b3 F HL
  go_wp2_with fail
  generalize (w3.setCell ⟨w.heap.size + 1, 0, none⟩ (.int .i64 x0)).setCell ⟨w.heap.size + 1, 1, none⟩ (.int .i64 x1) = V at *
  have z0 := blk_at G.out.1 0
  have z1 := blk_at G.out.1 1
  simp only [List.getElem?_cons_zero, List.getElem?_cons_succ] at z0 z1
  refine bodyPost_ret (v := .agg #[.int .i64 x0, .int .i64 x1]) (by simp [results, Try.results35, go_sem, z0, z1]) rfl ?_
  exact ⟨by rw [hx0, hx1], G.out.2⟩
theorem dn (B : Nat) (w : World) (n : Nat) : Below B w (w.drewN n) := ⟨rfl, rfl, rfl, Nat.le_refl _, fun _ _ => rfl⟩
def endOf (s : Int) (x : Int × Int) : Int := if (x.1 = 0 ∧ x.2 = 0) ∨ s ≤ 0 then 0 else x.2 + s
set_option maxHeartbeats 1000000 in
theorem lsend_any (g : Nat) (q : Option Nat) (s : Int) (l : List (Int × Int)) (x : Int × Int) (w : World) (h : (lsOb g q s l).Ok w) (hs : -2000 ≤ s ∧ s ≤ 1000) (hx : 0 ≤ x.2 ∧ x.2 ≤ 1099511627776) :
    Calls Try.prog 39 #[.pointer (some ⟨g, 0, none⟩), .agg #[.int .i64 x.1, .int .i64 x.2]] w fun e w' => e = .returned (.int .i64 (endOf s x)) ∧ Below w.heap.size w w' := by
  obtain ⟨x0, x1⟩ := x
  have b1 : Below w.heap.size w (w.alloc (.cells #[.int .i64 x0, .int .i64 x1] 72)) := (Below.refl _ _).alloc (Nat.le_refl _) _
  have M := Blk.new' w 72 [.int .i64 x0, .int .i64 x1]
  obtain ⟨hn, v, hq, hG, ho⟩ := (h.later b1).holds
  have c0 := blk_at hG 0
  have k0 := blk_at M 0
  have k1 := blk_at M 1
  simp only [List.cons_append, List.nil_append, List.getElem?_cons_zero, List.getElem?_cons_succ] at c0 k0 k1
  have hu := eqS
  have F : Hid _ := b1
  dsimp only at hx ⊢
  clear b1 M hG ho h
  unfold endOf
  dsimp only
  by_cases e0 : x0 = 0 ∧ x1 = 0
  · rw [if_pos (.inl e0)]
    obtain ⟨rfl, rfl⟩ := e0
    go_enter Try.func39, Try.ntmps39
    go_wp2
    go_ret
    exact ⟨rfl, F.out⟩
  · have eb : (x0 == 0 && x1 == 0) = false := by simpa using e0
    by_cases e1 : s ≤ 0
    · rw [if_pos (.inr e1)]
      go_enter Try.func39, Try.ntmps39
      go_wp2
      go_ret
      exact ⟨rfl, F.out⟩
    · rw [if_neg (by simp [e0, e1])]
      go_enter Try.func39, Try.ntmps39
      go_wp2_with fail
      go_quiet (fail)
      go_wp2
      go_ret
      exact ⟨by first | rfl | (congr 2; go_num), F.out.trans (dn _ _ _)⟩
end Go.Proofs.Ytjelbekjmfnenaa
