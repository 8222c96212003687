/- The table of actions. -/
import Derived.Test.YtlopkfenbeahgaaXRv15
namespace Go.Proofs.Ytlopkfenbeahgaa
open Go.RowKit Go.Shelf
set_option linter.unusedVariables false
set_option linter.unusedSimpArgs false
set_option maxRecDepth 4000

set_option maxHeartbeats 4000000 in
theorem actions_any (g : Nat) (w : World) : Calls Try.prog 23 #[.pointer (some ⟨g, 0, none⟩)] w fun e w' => e = .returned (.agg #[.int .i64 0, .bool false, .func (.func 34) #[.pointer (some ⟨g, 0, none⟩)] #[], .int .i64 1, .bool true, .func (.func 35) #[.pointer (some ⟨g, 0, none⟩)] #[], .int .i64 2, .bool true, .func (.func 36) #[.pointer (some ⟨g, 0, none⟩)] #[], .int .i64 3, .bool true, .func (.func 37) #[.pointer (some ⟨g, 0, none⟩)] #[], .int .i64 4, .bool true, .func (.func 38) #[.pointer (some ⟨g, 0, none⟩)] #[], .int .i64 6, .bool false, .func (.func 39) #[.pointer (some ⟨g, 0, none⟩)] #[]]) ∧ Below w.heap.size w w' := by
  have b1 : Below w.heap.size w (w.alloc (.cells #[.int .i64 0, .bool false, .func (.func 34) #[.pointer (some ⟨g, 0, none⟩)] #[], .int .i64 1, .bool true, .func (.func 35) #[.pointer (some ⟨g, 0, none⟩)] #[], .int .i64 2, .bool true, .func (.func 36) #[.pointer (some ⟨g, 0, none⟩)] #[], .int .i64 3, .bool true, .func (.func 37) #[.pointer (some ⟨g, 0, none⟩)] #[], .int .i64 4, .bool true, .func (.func 38) #[.pointer (some ⟨g, 0, none⟩)] #[], .int .i64 6, .bool false, .func (.func 39) #[.pointer (some ⟨g, 0, none⟩)] #[]] 71)) := (Below.refl _ _).alloc (Nat.le_refl _) _
  have A1 := Blk.new' w 71 [.int .i64 0, .bool false, .func (.func 34) #[.pointer (some ⟨g, 0, none⟩)] #[], .int .i64 1, .bool true, .func (.func 35) #[.pointer (some ⟨g, 0, none⟩)] #[], .int .i64 2, .bool true, .func (.func 36) #[.pointer (some ⟨g, 0, none⟩)] #[], .int .i64 3, .bool true, .func (.func 37) #[.pointer (some ⟨g, 0, none⟩)] #[], .int .i64 4, .bool true, .func (.func 38) #[.pointer (some ⟨g, 0, none⟩)] #[], .int .i64 6, .bool false, .func (.func 39) #[.pointer (some ⟨g, 0, none⟩)] #[]]
  have y0 := blk_at A1 0
  have y1 := blk_at A1 1
  have y2 := blk_at A1 2
  have y3 := blk_at A1 3
  have y4 := blk_at A1 4
  have y5 := blk_at A1 5
  have y6 := blk_at A1 6
  have y7 := blk_at A1 7
  have y8 := blk_at A1 8
  have y9 := blk_at A1 9
  have y10 := blk_at A1 10
  have y11 := blk_at A1 11
  have y12 := blk_at A1 12
  have y13 := blk_at A1 13
  have y14 := blk_at A1 14
  have y15 := blk_at A1 15
  have y16 := blk_at A1 16
  have y17 := blk_at A1 17
  simp only [List.getElem?_cons_zero, List.getElem?_cons_succ] at y0 y1 y2 y3 y4 y5 y6 y7 y8 y9 y10 y11 y12 y13 y14 y15 y16 y17
  have F : Hid _ := And.intro b1 trivial
  clear b1 A1
  have hst : (Instr.storeAt 71 (.pointer (some ⟨w.heap.size, 0, none⟩)) (.agg #[.int .i64 0, .bool false, .func (.func 34) #[.pointer (some ⟨g, 0, none⟩)] #[], .int .i64 1, .bool true, .func (.func 35) #[.pointer (some ⟨g, 0, none⟩)] #[], .int .i64 2, .bool true, .func (.func 36) #[.pointer (some ⟨g, 0, none⟩)] #[], .int .i64 3, .bool true, .func (.func 37) #[.pointer (some ⟨g, 0, none⟩)] #[], .int .i64 4, .bool true, .func (.func 38) #[.pointer (some ⟨g, 0, none⟩)] #[], .int .i64 6, .bool false, .func (.func 39) #[.pointer (some ⟨g, 0, none⟩)] #[]])).run Try.prog (w.alloc (.cells #[.int .i64 0, .bool false, .nilFunc, .int .i64 0, .bool false, .nilFunc, .int .i64 0, .bool false, .nilFunc, .int .i64 0, .bool false, .nilFunc, .int .i64 0, .bool false, .nilFunc, .int .i64 0, .bool false, .nilFunc] 71)) = .ok () (w.alloc (.cells #[.int .i64 0, .bool false, .func (.func 34) #[.pointer (some ⟨g, 0, none⟩)] #[], .int .i64 1, .bool true, .func (.func 35) #[.pointer (some ⟨g, 0, none⟩)] #[], .int .i64 2, .bool true, .func (.func 36) #[.pointer (some ⟨g, 0, none⟩)] #[], .int .i64 3, .bool true, .func (.func 37) #[.pointer (some ⟨g, 0, none⟩)] #[], .int .i64 4, .bool true, .func (.func 38) #[.pointer (some ⟨g, 0, none⟩)] #[], .int .i64 6, .bool false, .func (.func 39) #[.pointer (some ⟨g, 0, none⟩)] #[]] 71)) := by
    have hs : (Try.prog.info? 71).map (·.size) = some 18 := by kernel_rfl
    have h := run_storeVar_row (P := Try.prog) (w.alloc (.cells #[.int .i64 0, .bool false, .nilFunc, .int .i64 0, .bool false, .nilFunc, .int .i64 0, .bool false, .nilFunc, .int .i64 0, .bool false, .nilFunc, .int .i64 0, .bool false, .nilFunc, .int .i64 0, .bool false, .nilFunc] 71)) w.heap.size 71 71 #[.int .i64 0, .bool false, .nilFunc, .int .i64 0, .bool false, .nilFunc, .int .i64 0, .bool false, .nilFunc, .int .i64 0, .bool false, .nilFunc, .int .i64 0, .bool false, .nilFunc, .int .i64 0, .bool false, .nilFunc] #[.int .i64 0, .bool false, .func (.func 34) #[.pointer (some ⟨g, 0, none⟩)] #[], .int .i64 1, .bool true, .func (.func 35) #[.pointer (some ⟨g, 0, none⟩)] #[], .int .i64 2, .bool true, .func (.func 36) #[.pointer (some ⟨g, 0, none⟩)] #[], .int .i64 3, .bool true, .func (.func 37) #[.pointer (some ⟨g, 0, none⟩)] #[], .int .i64 4, .bool true, .func (.func 38) #[.pointer (some ⟨g, 0, none⟩)] #[], .int .i64 6, .bool false, .func (.func 39) #[.pointer (some ⟨g, 0, none⟩)] #[]] (MapKept.heap_alloc w _).1 (by rw [hs]; rfl) rfl (by simp [Value.oneCell'])
    simp only [Instr.storeAt, Instr.sureAddr, Sem.run_bind, Sem.run_pure, Result.andThen_ok, h, setRow_new16]
  go_enter Try.func23, Try.ntmps23
  go_wp2_with (refine wpList_skip rfl (exec_store rfl rfl rfl hst) ?_)
  clear hst
  generalize w.alloc (.cells #[.int .i64 0, .bool false, .func (.func 34) #[.pointer (some ⟨g, 0, none⟩)] #[], .int .i64 1, .bool true, .func (.func 35) #[.pointer (some ⟨g, 0, none⟩)] #[], .int .i64 2, .bool true, .func (.func 36) #[.pointer (some ⟨g, 0, none⟩)] #[], .int .i64 3, .bool true, .func (.func 37) #[.pointer (some ⟨g, 0, none⟩)] #[], .int .i64 4, .bool true, .func (.func 38) #[.pointer (some ⟨g, 0, none⟩)] #[], .int .i64 6, .bool false, .func (.func 39) #[.pointer (some ⟨g, 0, none⟩)] #[]] 71) = w1 at *
  refine bodyPost_ret (v := .agg #[.int .i64 0, .bool false, .func (.func 34) #[.pointer (some ⟨g, 0, none⟩)] #[], .int .i64 1, .bool true, .func (.func 35) #[.pointer (some ⟨g, 0, none⟩)] #[], .int .i64 2, .bool true, .func (.func 36) #[.pointer (some ⟨g, 0, none⟩)] #[], .int .i64 3, .bool true, .func (.func 37) #[.pointer (some ⟨g, 0, none⟩)] #[], .int .i64 4, .bool true, .func (.func 38) #[.pointer (some ⟨g, 0, none⟩)] #[], .int .i64 6, .bool false, .func (.func 39) #[.pointer (some ⟨g, 0, none⟩)] #[]]) (by simp [results, Try.results23, go_sem, y0, y1, y2, y3, y4, y5, y6, y7, y8, y9, y10, y11, y12, y13, y14, y15, y16, y17]) rfl ?_
  exact ⟨rfl, F.out.1⟩
end Go.Proofs.Ytlopkfenbeahgaa

