/- An entry that is told, out of what stands at its place. -/
import Derived.Test.YtehbolkjgiedbaaEn6
namespace Go.Proofs.Ytehbolkjgiedbaa
open Go.RowKit
set_option linter.unusedVariables false

/-- what is told of an entry: new bytes -/
def Told (w w' : World) (e : Ent) (r : Ending) : Prop := ∃ x c, r = .returned (.tuple #[.agg #[.int .i64 e.1, .int .i64 e.2.1, .slice x e.2.2.length c], .bool true]) ∧ Row w' x e.2.2 ∧ e.2.2.length ≤ c ∧ (x = none → c = 0) ∧ (∀ z, x = some z → w.heap.size ≤ z.block ∧ z.block < w'.heap.size)
set_option maxHeartbeats 1000000 in
theorem entryOf_change (t b : Int) (w : World) (hb : 0 ≤ b ∧ b ≤ 255) :
    Calls Try.prog 36 #[.iface 84 (.agg #[.int .i64 t, .int .i64 b])] w fun r w' => ∃ k, r = .returned (.tuple #[.agg #[.int .i64 2, .int .i64 t, .slice (some ⟨k, 0, none⟩) 1 1], .bool true]) ∧ w.heap.size ≤ k ∧ Blk w' k 5 [.int .u8 b] ∧ Below w.heap.size w w' := by
  have f1 := as_cc
  have A1 := box3_below w (.int .i64 2) (.int .i64 t) (.slice (some ⟨w.heap.size + 1 + 1, 0, none⟩) 1 1) 48
  obtain ⟨y0, y1, y2⟩ := (eblk3 (Blk.new' w 48 [.int .i64 2, .int .i64 t, .slice (some ⟨w.heap.size + 1 + 1, 0, none⟩) 1 1])).1
  have F : Hid _ := And.intro A1 (And.intro y0 (And.intro y1 y2))
  clear A1 y0 y1 y2
  go_enter Try.func36, Try.ntmps36
  go_wp2
  obtain ⟨A1, y0, y1, y2⟩ := F.out
  have A2 : Below (w.alloc (.cells #[.int .i64 2, .int .i64 t, .slice (some ⟨w.heap.size + 1 + 1, 0, none⟩) 1 1] 48)).heap.size (w.alloc (.cells #[.int .i64 2, .int .i64 t, .slice (some ⟨w.heap.size + 1 + 1, 0, none⟩) 1 1] 48)) ((w.alloc (.cells #[.int .i64 2, .int .i64 t, .slice (some ⟨w.heap.size + 1 + 1, 0, none⟩) 1 1] 48)).alloc (.cells #[.int .i64 t, .int .i64 b] 84)) := (Below.refl _ _).alloc (Nat.le_refl _) _
  have z0 := cell_later A2 y0
  have z1 := cell_later A2 y1
  have z2 := cell_later A2 y2
  have s2 : ((w.alloc (.cells #[.int .i64 2, .int .i64 t, .slice (some ⟨w.heap.size + 1 + 1, 0, none⟩) 1 1] 48)).alloc (.cells #[.int .i64 t, .int .i64 b] 84)).heap.size = w.heap.size + 1 + 1 := by simp
  have A12 := below_then A1 A2
  generalize (w.alloc (.cells #[.int .i64 2, .int .i64 t, .slice (some ⟨w.heap.size + 1 + 1, 0, none⟩) 1 1] 48)).alloc (.cells #[.int .i64 t, .int .i64 b] 84) = w2 at *
  have A3 : Below w2.heap.size w2 (w2.alloc (.cells #[.int .u8 b] 5)) := (Below.refl _ _).alloc (Nat.le_refl _) _
  have B3 := Blk.new' w2 5 [.int .u8 b]
  rw [s2] at B3
  have x0 := cell_later A3 z0
  have x1 := cell_later A3 z1
  have x2 := cell_later A3 z2
  have A := below_then A12 A3
  have B4 : Blk (w2.alloc (.cells #[.int .u8 b] 5)) (w.heap.size + 1 + 1) 5 [.int .u8 b] := B3
  generalize w2.alloc (.cells #[.int .u8 b] 5) = w3 at *
  refine bodyPost_ret (v := .tuple #[.agg #[.int .i64 2, .int .i64 t, .slice (some ⟨w.heap.size + 1 + 1, 0, none⟩) 1 1], .bool true]) (by simp [results, Try.results36, go_sem, x0, x1, x2]) rfl ?_
  exact ⟨_, rfl, by omega, B4, A⟩
set_option maxHeartbeats 1000000 in
theorem entryOf_plain (k t : Int) (l : List (BitVec 8)) (w : World) :
    Calls Try.prog 36 #[.iface 86 (.agg #[.int .i64 k, .int .i64 t, .string (str l)])] w fun r w' => ∃ b c, r = .returned (.tuple #[.agg #[.int .i64 k, .int .i64 t, .slice (some ⟨b, 0, none⟩) l.length c], .bool true]) ∧ w.heap.size ≤ b ∧ b < w'.heap.size ∧ l.length ≤ c ∧ Row w' (some ⟨b, 0, none⟩) l ∧ Below w.heap.size w w' := by
  have f1 := as_pc
  have f2 := as_pp
  have A1 := box3_below w (.int .i64 0) (.int .i64 0) (.slice none 0 0) 48
  have B1 : Blk (w.alloc (.cells #[.int .i64 0, .int .i64 0, .slice none 0 0] 48)) w.heap.size 48 [.int .i64 0, .int .i64 0, .slice none 0 0] := Blk.new' w _ _
  have A2 := box3_below (w.alloc (.cells #[.int .i64 0, .int .i64 0, .slice none 0 0] 48)) (.int .i64 k) (.int .i64 t) (.string (str l)) 86
  have B2 := B1.laterB A2
  have A12 := below_then A1 A2
  have s2 : ((w.alloc (.cells #[.int .i64 0, .int .i64 0, .slice none 0 0] 48)).alloc (.cells #[.int .i64 k, .int .i64 t, .string (str l)] 86)).heap.size = w.heap.size + 1 + 1 := by simp
  obtain ⟨c, w3, hrun, hc, s3, hr3, A3⟩ := bytes_of_str ((w.alloc (.cells #[.int .i64 0, .int .i64 0, .slice none 0 0] 48)).alloc (.cells #[.int .i64 k, .int .i64 t, .string (str l)] 86)) l
  have B3 := B2.laterB A3
  have A := below_then A12 A3
  rw [s2] at hrun s3 hr3
  obtain ⟨⟨z0, z1, z2⟩, g0, g1, g2⟩ := eblk3 B3
  have HK : Hid _ := And.intro (fun x y z : Value => eset3 B3 x y z w.heap.size w A (Nat.le_refl _) A.size) hr3
  clear A1 B1 A2 B2 A12 s2 A3 B3 A hr3
  go_enter Try.func36, Try.ntmps36
  go_wp2
  obtain ⟨hk, hr3⟩ := HK.out
  have H1 := hk (.int .i64 k) (.int .i64 t) (.slice (some ⟨w.heap.size + 1 + 1, 0, none⟩) l.length c)
  have hsz := eset3_size w3 w.heap.size (.int .i64 k) (.int .i64 t) (.slice (some ⟨w.heap.size + 1 + 1, 0, none⟩) l.length c)
  have hbl := eset3_block w3 w.heap.size (.int .i64 k) (.int .i64 t) (.slice (some ⟨w.heap.size + 1 + 1, 0, none⟩) l.length c) (w.heap.size + 1 + 1) (by omega)
  generalize ((w3.setCell ⟨w.heap.size, 0, none⟩ (.int .i64 k)).setCell ⟨w.heap.size, 1, none⟩ (.int .i64 t)).setCell ⟨w.heap.size, 2, none⟩ (.slice (some ⟨w.heap.size + 1 + 1, 0, none⟩) l.length c) = wf at *
  obtain ⟨⟨y0, y1, y2⟩, -⟩ := eblk3 H1.1
  refine bodyPost_ret (v := .tuple #[.agg #[.int .i64 k, .int .i64 t, .slice (some ⟨w.heap.size + 1 + 1, 0, none⟩) l.length c], .bool true]) (by simp [results, Try.results36, go_sem, y0, y1, y2]) rfl ?_
  exact ⟨_, _, rfl, by omega, by omega, hc, hr3.stay (fun y hy => by cases hy; exact hbl), H1.2⟩
end Go.Proofs.Ytehbolkjgiedbaa
