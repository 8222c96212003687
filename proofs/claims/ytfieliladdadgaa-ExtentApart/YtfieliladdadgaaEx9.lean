/- A change that can be, and one that is done. -/
import Derived.Test.YtfieliladdadgaaEx2
namespace Go.Proofs.Ytfieliladdadgaa
open Go.RowKit Go.MapKept Go.ChangeMaps
set_option linter.unusedVariables false
set_option maxRecDepth 4000

/-- can a change of that block, of so many bytes, be? -/
def canB (n : Nat) (a : Int) (len : Nat) : Bool := spansB n a 1 && (len == 0 || len == 64)
theorem box2_below (w : World) (x y : Value) (T : TypeId) : Below w.heap.size w (w.alloc (.cells #[x, y] T)) := (Below.refl _ _).alloc (Nat.le_refl _) _
set_option maxHeartbeats 1000000 in
theorem canBe_any (g b : Nat) (m : Im) (a : Int) (x : Option Addr) (len cap : Nat) (w : World) (h : (im g b m).Ok w) (hw : m.Wf) (ha : I64 a) (hlen : len ≤ 140737488355328) :
    Calls Try.prog 28 #[.pointer (some ⟨g, 0, none⟩), .agg #[.int .i64 a, .slice x len cap]] w fun e w' => e = .returned (.bool (canB m.n a len)) ∧ Below w.heap.size w w' := by
  have b1 := box2_below w (.int .i64 a) (.slice x len cap) 39
  obtain ⟨c0, c1⟩ := box_cells w (.int .i64 a) (.slice x len cap) 39
  have HS := spans_any g b m a 1 _ (h.later b1) hw ha (by unfold I64; omega)
  have F : Hid _ := b1
  obtain ⟨R, hR⟩ : ∃ R, R = canB m.n a len := ⟨_, rfl⟩
  rw [← hR]
  unfold canB at hR
  clear h b1
  cases hs : spansB m.n a 1 with
  | false =>
    rw [hs] at HS hR
    have HR : Hid _ := hR
    clear hR hs
    go_enter Try.func28, Try.ntmps28
    go_wp2_with (go_at_call 30; refine HS.mono ?_; rintro e w' ⟨rfl, rfl⟩)
    go_ret
    exact ⟨ret_bool (by rw [HR.out]; rfl), F.out⟩
  | true =>
    rw [hs] at HS hR
    have HR : Hid _ := hR
    clear hR hs
    by_cases h0 : len = 0
    · subst h0
      go_enter Try.func28, Try.ntmps28
      go_wp2_with (go_at_call 30; refine HS.mono ?_; rintro e w' ⟨rfl, rfl⟩)
      go_ret
      exact ⟨ret_bool (by rw [HR.out]; rfl), F.out⟩
    · have q0 : ¬ (len : Int) = 0 := by omega
      have q1 : ((len : Int) == 0) = false := by simpa using h0
      go_enter Try.func28, Try.ntmps28
      go_wp2_with (go_at_call 30; refine HS.mono ?_; rintro e w' ⟨rfl, rfl⟩)
      go_ret
      exact ⟨ret_bool (by
        rw [HR.out]
        have : (len == 0) = false := by simpa using h0
        rw [this, Bool.true_and, Bool.false_or]
        by_cases h64 : len = 64
        · subst h64; rfl
        · have e1 : (len == 64) = false := by simpa using h64
          rw [e1]
          simp
          omega), F.out⟩
/-- what a change does -/
def chI (m : Im) (a : Nat) (l : List (BitVec 8)) : Im := putI m a (if l = [] then none else some l)
theorem step_delete {P : Program} {ops : Array Oper} {o : Oper} {a : Act} {w w' : World} {K : Act → World → Prop} {Q : Exit → Act → World → Prop} {E : Prop} {t k : TypeId} {m x : Operand} (hgd : o.guard = none)
    (ho : o.op = .call { callee := .builtin .delete, args := #[m, x], argTypes := #[t, k] }) (h : (Builtin.delete_ #[t, k] o.type #[a.eval m, a.eval x]).run P w = .ok (.tuple #[]) w') (next : K (a.put o.dst (.tuple #[])) w') :
    if Region.wanted o (yielded ops a.tmps) = true then Oper.wp P o a w K Q else E := by
  have hw : Region.wanted o (yielded ops a.tmps) = true := by simp [Region.wanted, hgd]
  rw [if_pos hw]
  unfold Oper.wp
  simp only [execOp, ho, resolve, invoke, builtin, Sem.run_bind, Sem.run_pure, Result.andThen_ok, List.map_toArray, List.map_cons, List.map_nil, h]
  exact next
theorem cells_not_map {g b : Nat} {m : Im} {W : World} (h : (im g b m).Ok W) {y o : Nat} {v : Value} (hc : W.cell? ⟨y, o, none⟩ = some v) : y ≠ b := by
  rintro rfl
  obtain ⟨h1, h2, es, clock, h3, h4⟩ := h.holds
  simp [World.cell?, h3] at hc
/-- rows and cells that are not the map's stay -/
theorem ch_keep {g b : Nat} {m m' : Im} {W W' : World} {q : Nat} {u v : Value} {x : Option Addr} {l : List (BitVec 8)} (hst : Step W W' (im g b m) (im g b m')) (hB : Blk W q 39 [u, v]) (hqb : q ≠ b) (hr : Row W x l) (hok : (im g b m).Ok W) :
    W'.cell? ⟨g, 1, none⟩ = some (.map (some b)) ∧ W'.cell? ⟨q, 0, none⟩ = some u ∧ W'.cell? ⟨q, 1, none⟩ = some v ∧ Row W' x l := by
  have hB' := hB.turned hst.turned (by simp [im]; exact hqb)
  have c0 := hB'.cell (by simp [maxLen]) 0 (by simp)
  have c1 := hB'.cell (by simp [maxLen]) 1 (by simp)
  simp only [List.getElem?_cons_succ, List.getElem?_cons_zero] at c0 c1
  refine ⟨(im_cells hst.ok).2, c0, c1, ?_⟩
  rcases hr with rfl | ⟨y, off, rfl, hc⟩
  · exact .inl rfl
  · by_cases hl : l = []
    · exact .inl hl
    · have hr' : Row W (some ⟨y, off, none⟩) l := .inr ⟨y, off, rfl, hc⟩
      have hpos : 1 ≤ l.length := by cases l with | nil => exact absurd rfl hl | cons _ _ => simp
      exact hr'.same (fun z hz => by cases hz; exact hst.turned.block y (row_lt hr' hpos) (by simp [im]; exact cells_not_map hok (hc 0 (by omega))))

set_option maxHeartbeats 2000000 in
theorem change_none (g b : Nat) (m : Im) (a : Nat) (x : Option Addr) (len cap : Nat) (l : List (BitVec 8)) (w : World) (h : (im g b m).Ok w) (ha : a < 256) (hl : l.length = len) (h0 : len = 0) (hr : Row w x l) :
    Calls Try.prog 29 #[.pointer (some ⟨g, 0, none⟩), .agg #[.int .i64 a, .slice x len cap]] w fun e w' => e = .returned (.tuple #[]) ∧ Step w w' (im g b m) (im g b (chI m a l)) := by
  have b1 := box2_below w (.int .i64 (a : Int)) (.slice x len cap) 39
  obtain ⟨c0, c1⟩ := box_cells w (.int .i64 (a : Int)) (.slice x len cap) 39
  have hqg : g < w.heap.size := h.lt g (.inr (by simp [im]))
  have hqb : b < w.heap.size := h.lt b (.inl (by simp [im]))
  have ok1 := h.later b1
  have r1 := hr.later b1
  have B1 : Blk (w.alloc (.cells #[.int .i64 (a : Int), .slice x len cap] 39)) w.heap.size 39 [.int .i64 (a : Int), .slice x len cap] := Blk.new' w _ _
  have hz1 : (w.alloc (.cells #[.int .i64 (a : Int), .slice x len cap] 39)).heap.size = w.heap.size + 1 := by simp
  subst h0
  obtain rfl : l = [] := List.eq_nil_of_length_eq_zero hl
  obtain ⟨w', hdel, hst⟩ := im_drop ok1.drew a (by unfold I64; omega) 0
  have hk := ch_keep hst (W := (w.alloc (.cells #[.int .i64 (a : Int), .slice x 0 cap] 39)).drew) B1 (by omega) (r1.later (Below.refl _ _).drew) ok1.drew
  have hcm : chI m a [] = putI m a none := by unfold chI; rw [if_pos rfl]
  rw [hcm]
  have cg := (im_cells ok1).2
  have F : Hid _ := (Step.quiet h b1).trans ((Step.quiet ok1 (Below.refl _ _).drew).trans hst)
  clear b1 hst h hr
  go_enter Try.func29, Try.ntmps29
  go_wp2_with fail
  generalize w.alloc (.cells #[.int .i64 (a : Int), .slice x 0 cap] 39) = w1 at *
  (try simp only [Act.put, List.setIfInBounds_toArray, List.set_cons_zero, List.set_cons_succ])
  refine wp_region_held_drew (S := fun W => W.cell? ⟨g, 1, none⟩ = some (.map (some b)) ∧ W.cell? ⟨w.heap.size, 0, none⟩ = some (.int .i64 (a : Int)) ∧ W.cell? ⟨w.heap.size, 1, none⟩ = some (.slice x 0 cap) ∧ Row W x []) (by kernel_rfl) ⟨cg, c0, c1, r1.later (Below.refl _ _).drew⟩ (fun hS => ?_)
  refine any_take (i := 0) (v := ?_) rfl (by kernel_rfl) (by kernel_rfl) (by kernel_rfl) (by exact fun _ _ _ h => h) (by rfl) ?_ hS ?_
  rotate_left
  · ((intro w hSw; (try dsimp only at hSw); go_simp) <;> with_reducible rfl)
  (try simp only [Act.put, List.setIfInBounds_toArray, List.set_cons_zero, List.set_cons_succ])
  refine any_take (i := 1) (v := ?_) rfl (by kernel_rfl) (by kernel_rfl) (by kernel_rfl) (by exact fun _ _ _ h => h) (by rfl) ?_ hS ?_
  rotate_left
  · ((intro w hSw; (try dsimp only at hSw); go_simp) <;> with_reducible rfl)
  (try simp only [Act.put, List.setIfInBounds_toArray, List.set_cons_zero, List.set_cons_succ])
  refine any_take (i := 2) (v := ?_) rfl (by kernel_rfl) (by kernel_rfl) (by kernel_rfl) (by exact fun _ _ _ h => h) (by rfl) ?_ hS ?_
  rotate_left
  · ((intro w hSw; (try dsimp only at hSw); go_simp) <;> with_reducible rfl)
  (try simp only [Act.put, List.setIfInBounds_toArray, List.set_cons_zero, List.set_cons_succ])
  refine any_take (i := 3) (v := .map (some b)) rfl (by kernel_rfl) (by kernel_rfl) (by kernel_rfl) (by exact fun _ _ _ h => h) (by rfl) ?_ hS ?_
  · intro W hSW; have c := hSW.1; go_simp
  (try simp only [Act.put, List.setIfInBounds_toArray, List.set_cons_zero, List.set_cons_succ])
  refine any_take (i := 4) (v := ?_) rfl (by kernel_rfl) (by kernel_rfl) (by kernel_rfl) (by exact fun _ _ _ h => h) (by rfl) ?_ hS ?_
  rotate_left
  · ((intro w hSw; (try dsimp only at hSw); go_simp) <;> with_reducible rfl)
  (try simp only [Act.put, List.setIfInBounds_toArray, List.set_cons_zero, List.set_cons_succ])
  refine any_take (i := 5) (v := .int .i64 (a : Int)) rfl (by kernel_rfl) (by kernel_rfl) (by kernel_rfl) (by exact fun _ _ _ h => h) (by rfl) ?_ hS ?_
  · intro W hSW; have c := hSW.2.1; go_simp
  (try simp only [Act.put, List.setIfInBounds_toArray, List.set_cons_zero, List.set_cons_succ])
  refine any_one (i := 6) rfl (by kernel_rfl) (fun K hK => step_delete rfl rfl (by simpa [Act.eval] using hdel) ?_)
  refine hK.out _ _ hk ?_
  clear hK K hS
  (try simp only [Act.put])
  refine wpAnyH_done (by kernel_rfl) ?_ _
  clear hk
  go_wp2_with fail
  refine bodyPost_ret (results_none rfl _ _ _) rfl ?_
  exact ⟨rfl, F.out⟩
set_option maxHeartbeats 2000000 in
theorem change_some (g b : Nat) (m : Im) (a : Nat) (x : Option Addr) (len cap : Nat) (l : List (BitVec 8)) (w : World) (h : (im g b m).Ok w) (ha : a < 256) (hl : l.length = len) (h0 : len = 64) (hr : Row w x l) :
    Calls Try.prog 29 #[.pointer (some ⟨g, 0, none⟩), .agg #[.int .i64 a, .slice x len cap]] w fun e w' => e = .returned (.tuple #[]) ∧ Step w w' (im g b m) (im g b (chI m a l)) := by
  have b1 := box2_below w (.int .i64 (a : Int)) (.slice x len cap) 39
  obtain ⟨c0, c1⟩ := box_cells w (.int .i64 (a : Int)) (.slice x len cap) 39
  have hqg : g < w.heap.size := h.lt g (.inr (by simp [im]))
  have hqb : b < w.heap.size := h.lt b (.inl (by simp [im]))
  have ok1 := h.later b1
  have r1 := hr.later b1
  have B1 : Blk (w.alloc (.cells #[.int .i64 (a : Int), .slice x len cap] 39)) w.heap.size 39 [.int .i64 (a : Int), .slice x len cap] := Blk.new' w _ _
  have hz1 : (w.alloc (.cells #[.int .i64 (a : Int), .slice x len cap] 39)).heap.size = w.heap.size + 1 := by simp
  subst h0
  obtain ⟨y, off, rfl⟩ : ∃ y off, x = some ⟨y, off, none⟩ := by
    rcases hr with e | ⟨y, off, e, _⟩
    · rw [e] at hl; simp at hl
    · exact ⟨y, off, e⟩
  obtain ⟨w', hupd, hst⟩ := im_store ok1.drew a l (by unfold I64; omega)
  have hk := ch_keep hst (W := (w.alloc (.cells #[.int .i64 (a : Int), .slice (some ⟨y, off, none⟩) 64 cap] 39)).drew) B1 (by omega) (r1.later (Below.refl _ _).drew) ok1.drew
  have hcm : chI m a l = putI m a (some l) := by unfold chI; rw [if_neg (by intro e; rw [e] at hl; simp at hl)]
  rw [hcm]
  have cg := (im_cells ok1).2
  have F : Hid _ := (Step.quiet h b1).trans ((Step.quiet ok1 (Below.refl _ _).drew).trans hst)
  clear b1 hst h hr
  go_enter Try.func29, Try.ntmps29
  go_wp2_with fail
  generalize w.alloc (.cells #[.int .i64 (a : Int), .slice (some ⟨y, off, none⟩) 64 cap] 39) = w1 at *
  (try simp only [Act.put, List.setIfInBounds_toArray, List.set_cons_zero, List.set_cons_succ])
  refine wp_region_held_drew (S := fun W => W.cell? ⟨g, 1, none⟩ = some (.map (some b)) ∧ W.cell? ⟨w.heap.size, 0, none⟩ = some (.int .i64 (a : Int)) ∧ W.cell? ⟨w.heap.size, 1, none⟩ = some (.slice (some ⟨y, off, none⟩) 64 cap) ∧ Row W (some ⟨y, off, none⟩) l) (by kernel_rfl) ⟨cg, c0, c1, r1.later (Below.refl _ _).drew⟩ (fun hS => ?_)
  refine any_take (i := 0) (v := ?_) rfl (by kernel_rfl) (by kernel_rfl) (by kernel_rfl) (by exact fun _ _ _ h => h) (by rfl) ?_ hS ?_
  rotate_left
  · ((intro w hSw; (try dsimp only at hSw); go_simp) <;> with_reducible rfl)
  (try simp only [Act.put, List.setIfInBounds_toArray, List.set_cons_zero, List.set_cons_succ])
  refine any_take (i := 1) (v := ?_) rfl (by kernel_rfl) (by kernel_rfl) (by kernel_rfl) (by exact fun _ _ _ h => h) (by rfl) ?_ hS ?_
  rotate_left
  · ((intro w hSw; (try dsimp only at hSw); go_simp) <;> with_reducible rfl)
  (try simp only [Act.put, List.setIfInBounds_toArray, List.set_cons_zero, List.set_cons_succ])
  refine any_take (i := 2) (v := ?_) rfl (by kernel_rfl) (by kernel_rfl) (by kernel_rfl) (by exact fun _ _ _ h => h) (by rfl) ?_ hS ?_
  rotate_left
  · ((intro w hSw; (try dsimp only at hSw); go_simp) <;> with_reducible rfl)
  (try simp only [Act.put, List.setIfInBounds_toArray, List.set_cons_zero, List.set_cons_succ])
  refine any_take (i := 3) (v := .map (some b)) rfl (by kernel_rfl) (by kernel_rfl) (by kernel_rfl) (by exact fun _ _ _ h => h) (by rfl) ?_ hS ?_
  · intro W hSW; have c := hSW.1; go_simp
  (try simp only [Act.put, List.setIfInBounds_toArray, List.set_cons_zero, List.set_cons_succ])
  refine any_take (i := 4) (v := ?_) rfl (by kernel_rfl) (by kernel_rfl) (by kernel_rfl) (by exact fun _ _ _ h => h) (by rfl) ?_ hS ?_
  rotate_left
  · ((intro w hSw; (try dsimp only at hSw); go_simp) <;> with_reducible rfl)
  (try simp only [Act.put, List.setIfInBounds_toArray, List.set_cons_zero, List.set_cons_succ])
  refine any_take (i := 5) (v := .int .i64 (a : Int)) rfl (by kernel_rfl) (by kernel_rfl) (by kernel_rfl) (by exact fun _ _ _ h => h) (by rfl) ?_ hS ?_
  · intro W hSW; have c := hSW.2.1; go_simp
  (try simp only [Act.put, List.setIfInBounds_toArray, List.set_cons_zero, List.set_cons_succ])
  refine any_take (i := 6) (v := ?_) rfl (by kernel_rfl) (by kernel_rfl) (by kernel_rfl) (by exact fun _ _ _ h => h) (by rfl) ?_ hS ?_
  rotate_left
  · ((intro w hSw; (try dsimp only at hSw); go_simp) <;> with_reducible rfl)
  (try simp only [Act.put, List.setIfInBounds_toArray, List.set_cons_zero, List.set_cons_succ])
  refine any_take (i := 7) (v := .slice (some ⟨y, off, none⟩) 64 cap) rfl (by kernel_rfl) (by kernel_rfl) (by kernel_rfl) (by exact fun _ _ _ h => h) (by rfl) ?_ hS ?_
  · intro W hSW; have c := hSW.2.2.1; go_simp
  (try simp only [Act.put, List.setIfInBounds_toArray, List.set_cons_zero, List.set_cons_succ])
  refine any_take (i := 8) (v := .pointer (some ⟨y, off, none⟩)) rfl (by kernel_rfl) (by kernel_rfl) (by kernel_rfl) (by exact fun _ _ _ h => h) (by rfl) ?_ hS ?_
  · intro W hSW; simp [execOp, Act.eval, Instr.arrayAt, run_underlying und_blk]
  (try simp only [Act.put, List.setIfInBounds_toArray, List.set_cons_zero, List.set_cons_succ])
  refine any_take (i := 9) (v := arrV l) rfl (by kernel_rfl) (by kernel_rfl) (by kernel_rfl) (by exact fun _ _ _ h => h) (by rfl) ?_ hS ?_
  · intro W hSW; exact exec_load rfl rfl (load_blk hSW.2.2.2 hl)
  (try simp only [Act.put, List.setIfInBounds_toArray, List.set_cons_zero, List.set_cons_succ])
  refine any_one (i := 10) rfl (by kernel_rfl) (fun K hK => step_update rfl rfl (by simpa [Act.eval] using hupd) ?_)
  refine hK.out _ _ hk ?_
  clear hK K hS
  (try simp only [Act.put])
  refine wpAnyH_done (by kernel_rfl) ?_ _
  clear hk
  go_wp2_with fail
  go_end0
  exact ⟨rfl, F.out⟩
end Go.Proofs.Ytfieliladdadgaa
