/- Two maps that are alike. -/
import Derived.Test.YtmkacgdbmojomaaXEx2
import Derived.Maps.RangeRun
namespace Go.Proofs.Ytmkacgdbmojomaa
open Go.RowKit Go.MapKept Go.ChangeMaps
set_option linter.unusedVariables false
set_option maxRecDepth 4000

theorem left_less {es : Array MapEntry} {seen : Array Nat} {e : MapEntry} (he : e ∈ (leftOf es seen).toList) : (leftOf es (seen.push e.born)).size < (leftOf es seen).size := by
  have h1 : (leftOf es (seen.push e.born)).toList = (leftOf es seen).toList.filter (fun x => !(x.born == e.born)) := by
    unfold leftOf
    simp only [Array.toList_filter, List.filter_filter]
    congr 1
    funext x
    simp
    exact Bool.and_comm _ _
  have h2 : (leftOf es (seen.push e.born)).toList.length < (leftOf es seen).toList.length := by
    rw [h1, List.length_filter_lt_length_iff_exists]
    exact ⟨e, he, by simp⟩
  simpa using h2
theorem wpList_wanted {P : Program} {w w' : World} {ops : Array Oper} {rest : List Oper} {o : Oper} {a : Act} {Q : Exit → Act → World → Prop} {v : Value} (hw : Region.wanted o (yielded ops a.tmps) = true) (h : (execOp a.eval o).run P w = .ok (.value v) w') (k : wpList P ops Q rest (a.put o.dst v) w') : wpList P ops Q (o :: rest) a w :=
  wpList_step fun K hK => by
    rw [if_pos hw]
    unfold Oper.wp
    rw [h]
    exact hK _ _ k
theorem neq_same (l : List (BitVec 8)) (hl : l.length = 64) (w : World) : (binOp .neq 77 (arrV l) (arrV l)).run Try.prog w = .ok (.bool false) w := by
  have h := equal_blk l l hl hl w
  unfold arrV at *
  rw [run_neq_struct, h]
  simp
theorem guard_blk (l k : List (BitVec 8)) (x y : Operand) (w : World) : (eqGuard .neq 77 x y (arrV l) (arrV k)).run Try.prog w = .ok () w := run_eqGuard_agg w .neq _ x y _ _ (by kernel_rfl)
theorem exec_next {P : Program} {w w' : World} {a : Act} {o : Oper} {x : Operand} (ho : o.op = .next x false) {p u : Value} (hx : a.eval x = p) (h : (Instr.next p false o.type).run P w = .ok u w') : (execOp a.eval o).run P w = .ok (.value u) w' := by
  simp [execOp, ho, hx, h, Result.andThen]
theorem exec_range {P : Program} {w w' : World} {a : Act} {o : Oper} {t : TypeId} {x : Operand} (ho : o.op = .range t x) {p u : Value} (hx : a.eval x = p) (h : (Instr.range t p).run P w = .ok u w') : (execOp a.eval o).run P w = .ok (.value u) w' := by
  simp [execOp, ho, hx, h, Result.andThen]
def seenAt (W : World) (r : Nat) : Array Nat := match W.heap[r]? with | some (.mapIter _ _ s _) => s | _ => #[]
theorem range_map {w : World} {b : Nat} {es : Array MapEntry} {clock : Nat} (hb : w.heap[b]? = some (.map es clock)) : (Instr.range 59 (.map (some b))).run Try.prog w = .ok (.pointer (some ⟨w.heap.size, 0, none⟩)) (w.alloc (.mapIter (some b) clock #[] clock)) := by
  simp [Instr.range, run_underlying und_map, MapKept.run_getObj_map hb, Result.andThen]
theorem set_same {w : World} {r : Nat} {o : Obj} (h : r < w.heap.size) : (setBlock w r o).heap[r]? = some o := by simp [setBlock, h]
theorem set_other {w : World} {r k : Nat} {o : Obj} (h : k ≠ r) : (setBlock w r o).heap[k]? = w.heap[k]? := by unfold setBlock; rw [Array.getElem?_setIfInBounds_ne (Ne.symm h)]
theorem set_below {w : World} {r B : Nat} {o : Obj} (h : B ≤ r) : Below B w (setBlock w r o) := ⟨rfl, rfl, rfl, by simp [setBlock], fun k hk => set_other (by omega)⟩
/-- what is told of two maps while one of them is gone through -/
structure EqI (w : World) (b1 b2 r : Nat) (es1 es2 : Array MapEntry) (c1 c2 : Nat) (wr : World) : Prop where
  it : ∃ seen, wr.heap[r]? = some (.mapIter (some b1) c1 seen c1)
  m1 : wr.heap[b1]? = some (.map es1 c1)
  m2 : wr.heap[b2]? = some (.map es2 c2)
  below : Below w.heap.size w wr
  fresh : w.heap.size ≤ r

set_option maxHeartbeats 2000000 in
theorem equal_same (m : Im) (b1 b2 : Nat) (es1 es2 : Array MapEntry) (c1 c2 : Nat) (w : World) (h1 : w.heap[b1]? = some (.map es1 c1)) (h2 : w.heap[b2]? = some (.map es2 c2)) (m1 : MapIs es1 c1 m.M) (m2 : MapIs es2 c2 m.M) (hw : m.Wf) :
    Calls Try.prog 40 #[.map (some b1), .map (some b2)] w fun e w' => e = .returned (.bool true) ∧ Below w.heap.size w w' := by
  have l1 := m1.len (P := Try.prog) und_map h1 3
  have l2 := m2.len (P := Try.prog) und_map h2 3
  rw [im_used m1 hw] at l1
  rw [im_used m2 hw] at l2
  have hb1 : b1 < w.heap.size := (Array.getElem?_eq_some_iff.1 h1).1
  have hb2 : b2 < w.heap.size := (Array.getElem?_eq_some_iff.1 h2).1
  have hrg := range_map h1
  have bi : Below w.heap.size w (w.alloc (.mapIter (some b1) c1 #[] c1)) := (Below.refl _ _).alloc (Nat.le_refl _) _
  have E0 : EqI w b1 b2 w.heap.size es1 es2 c1 c2 (w.alloc (.mapIter (some b1) c1 #[] c1)) := ⟨⟨#[], (MapKept.heap_alloc w _).1⟩, (bi.block b1 hb1).trans h1, (bi.block b2 hb2).trans h2, bi, Nat.le_refl _⟩
  have HH : Hid _ := And.intro E0 (And.intro m1 (And.intro m2 hw))
  clear E0 bi m1 m2 h1 h2 hw
  go_enter Try.func40, Try.ntmps40
  go_wp2_with (refine wpList_value rfl (exec_range rfl rfl hrg) ?_)
  (try simp only [Act.put, List.setIfInBounds_toArray, List.set_cons_zero, List.set_cons_succ])
  have hold : ∀ x ∈ es1.toList, x.born < c1 := ((stamped_iff es1 c1).1 HH.out.2.1.stamped).1
  have hnd := ((stamped_iff es1 c1).1 HH.out.2.1.stamped).2.1
  generalize w.alloc (.mapIter (some b1) c1 #[] c1) = w0 at *
  clear hrg l1 l2
  go_loopw [16] (fun _ wr => EqI w b1 b2 w.heap.size es1 es2 c1 c2 wr) (fun _ wr => (leftOf es1 (seenAt wr w.heap.size)).size)
  case atStart => exact HH.out.1
  case round =>
    obtain ⟨⟨seen, hit⟩, k1, k2, kb, kf⟩ := hrel
    have hrl : w.heap.size < wr.heap.size := (Array.getElem?_eq_some_iff.1 hit).1
    have hsn : seenAt wr w.heap.size = seen := by unfold seenAt; rw [hit]
    rcases run_next_at (P := Try.prog) wr 0 w.heap.size b1 c1 c1 seen es1 c1 hit k1 hold (Nat.le_refl _) with ⟨hz, hn⟩ | ⟨e, he, w1, hal, hn⟩
    · have F : Hid _ := kb
      clear kb k1 k2 hit hsn HH hold hnd
      go_wp2_with (refine wpList_value rfl (exec_next rfl rfl hn) ?_)
      go_ret
      exact ⟨rfl, F.out⟩
    · have hem : e ∈ es1.toList := by unfold leftOf at he; simp at he ⊢; exact he.1
      obtain ⟨k, hk, hki, hkv⟩ := HH.out.2.1.keys e hem
      obtain ⟨lv, hlv, hll⟩ : ∃ lv, e.val = arrV lv ∧ lv.length = 64 := by
        unfold Im.M at hkv
        split at hkv
        · obtain ⟨l, hl, e1⟩ := Option.map_eq_some_iff.1 hkv
          exact ⟨l, e1.symm, (HH.out.2.2.2.each _ _ hl).2⟩
        · cases hkv
      have hw1 : Below wr.heap.size wr w1 := by rcases hal with rfl | rfl; exact Below.refl _ _; exact (Below.refl _ _).drew
      have hit1 : w1.heap[w.heap.size]? = some (.mapIter (some b1) c1 seen c1) := by rcases hal with rfl | rfl <;> exact hit
      rw [hk, hlv] at hn
      have hr1 : w.heap.size < w1.heap.size := Nat.lt_of_lt_of_le hrl hw1.size
      have i2 : (setBlock w1 w.heap.size (.mapIter (some b1) c1 (seen.push e.born) c1)).heap[w.heap.size]? = some (.mapIter (some b1) c1 (seen.push e.born) c1) := set_same hr1
      have j1 : (setBlock w1 w.heap.size (.mapIter (some b1) c1 (seen.push e.born) c1)).heap[b1]? = some (.map es1 c1) := (set_other (by omega)).trans ((hw1.block b1 (by omega)).trans k1)
      have j2 : (setBlock w1 w.heap.size (.mapIter (some b1) c1 (seen.push e.born) c1)).heap[b2]? = some (.map es2 c2) := (set_other (by omega)).trans ((hw1.block b2 (by omega)).trans k2)
      have jb : Below w.heap.size w (setBlock w1 w.heap.size (.mapIter (some b1) c1 (seen.push e.born) c1)) := (kb.trans (hw1.mono (by omega))).trans (set_below (by omega))
      have hless := left_less he
      conv at hless => rhs; rw [← hsn]
      generalize setBlock w1 w.heap.size (.mapIter (some b1) c1 (seen.push e.born) c1) = w2 at *
      have hent := run_entry_at (P := Try.prog) w2 w.heap.size b1 c1 seen es1 c1 e i2 j1 hem hnd
      rw [hk, hlv] at hent
      have b3 : Below w2.heap.size w2 (w2.alloc (.cells (vals lv).toArray 77)) := (Below.refl _ _).alloc (Nat.le_refl _) _
      have hz3 : (w2.alloc (.cells (vals lv).toArray 77)).heap.size = w2.heap.size + 1 := by simp
      have r3 := row_new w2 lv 77
      have hr2 : w.heap.size < w2.heap.size := (Array.getElem?_eq_some_iff.1 i2).1
      have hlk := HH.out.2.2.1.look_ok (P := Try.prog) und_int und_map ((b3.block b2 (by omega)).trans j2) (zero_blk _) hki
      rw [hkv, hlv] at hlk
      simp only [Option.getD_some, Option.isSome_some] at hlk
      have b4 : Below (w2.alloc (.cells (vals lv).toArray 77)).heap.size (w2.alloc (.cells (vals lv).toArray 77)) ((w2.alloc (.cells (vals lv).toArray 77)).alloc (.cells (vals lv).toArray 77)) := (Below.refl _ _).alloc (Nat.le_refl _) _
      have r3' := r3.later b4
      have r4 := row_new (w2.alloc (.cells (vals lv).toArray 77)) lv 77
      rw [hz3] at r4
      have hne := neq_same lv hll
      have hgd := guard_blk lv lv
      have bb4 := below_then b3 b4
      have hx2 : Hid _ := And.intro bb4 <| And.intro i2 (And.intro j1 (And.intro j2 (And.intro jb (And.intro hless kf))))
      clear b3 b4 bb4 i2 j1 j2 jb hless hit hit1 hsn k1 k2 kb he hem hal hw1 hr1 hrl
      go_wp2_with (first | (refine wpList_value rfl (exec_next rfl rfl hn) ?_) | (refine wpList_value rfl (exec_alloc rfl (alloc_blk _)) ?_) | (refine wpList_skip rfl (exec_store rfl rfl rfl (store_blk _ _ hll)) ?_) | (refine wpList_wanted (by rfl) (exec_load rfl rfl (load_blk r3' hll)) ?_) | (refine wpList_wanted (by rfl) (exec_load rfl rfl (load_blk r4 hll)) ?_))
      obtain ⟨bb4, i2, j1, j2, jb, hless, kf⟩ := hx2.out
      have i4 := (bb4.block w.heap.size hr2).trans i2
      refine ⟨⟨⟨_, i4⟩, (bb4.block b1 (by omega)).trans j1, (bb4.block b2 (by omega)).trans j2, jb.trans (bb4.mono jb.size), kf⟩, ?_⟩
      have e4 : seenAt ((w2.alloc (.cells (vals lv).toArray 77)).alloc (.cells (vals lv).toArray 77)) w.heap.size = seen.push e.born := by unfold seenAt; rw [i4]
      rw [e4]
      exact hless
end Go.Proofs.Ytmkacgdbmojomaa

/- Two images that are alike. -/
namespace Go.Proofs.Ytmkacgdbmojomaa
open Go.RowKit Go.MapKept Go.ChangeMaps
set_option linter.unusedVariables false
set_option maxRecDepth 4000

set_option maxHeartbeats 2000000 in
theorem imSame_same (m : Im) (g1 b1 g2 b2 : Nat) (w : World) (h1 : (im g1 b1 m).Ok w) (h2 : (im g2 b2 m).Ok w) (hw : m.Wf) :
    Calls Try.prog 12 #[.pointer (some ⟨g1, 0, none⟩), .pointer (some ⟨g2, 0, none⟩)] w fun e w' => e = .returned (.bool true) ∧ Below w.heap.size w w' := by
  have HH : Hid _ := And.intro h1 (And.intro h2 hw)
  have HE : Hid _ := (show Calls Try.prog 40 #[.map (some b1), .map (some b2)] w.drew fun e w' => e = .returned (.bool true) ∧ Below w.drew.heap.size w.drew w' from by
    obtain ⟨-, -, es1, c1, k1, m1⟩ := h1.drew.holds
    obtain ⟨-, -, es2, c2, k2, m2⟩ := h2.drew.holds
    exact equal_same m b1 b2 es1 es2 c1 c2 _ k1 k2 m1 m2 hw)
  have Sd : (im g1 b1 m).Ok w.drew ∧ (im g2 b2 m).Ok w.drew := ⟨h1.drew, h2.drew⟩
  clear h1 h2 hw
  go_enter Try.func12, Try.ntmps12
  go_wp2_with fail
  refine wp_region_held_drew (S := fun W => (im g1 b1 m).Ok W ∧ (im g2 b2 m).Ok W) (by kernel_rfl) Sd (fun hS => ?_)
  refine any_take (i := 0) (v := ?_) rfl (by kernel_rfl) (by kernel_rfl) (by kernel_rfl) (by exact fun _ _ _ h => h) (by rfl) ?_ hS ?_
  rotate_left
  · ((intro w hSw; (try dsimp only at hSw); go_simp) <;> with_reducible rfl)
  (try simp only [Act.put, List.setIfInBounds_toArray, List.set_cons_zero, List.set_cons_succ])
  refine any_take (i := 1) (v := ?_) rfl (by kernel_rfl) (by kernel_rfl) (by kernel_rfl) (by exact fun _ _ _ h => h) (by rfl) ?_ hS ?_
  rotate_left
  · ((intro w hSw; (try dsimp only at hSw); go_simp) <;> with_reducible rfl)
  (try simp only [Act.put, List.setIfInBounds_toArray, List.set_cons_zero, List.set_cons_succ])
  refine any_take (i := 2) (v := ?_) rfl (by kernel_rfl) (by kernel_rfl) (by kernel_rfl) (by exact fun _ _ _ h => h) (by rfl) ?_ hS ?_
  rotate_left
  · ((intro w hSw; (try dsimp only at hSw); go_simp) <;> with_reducible rfl)
  (try simp only [Act.put, List.setIfInBounds_toArray, List.set_cons_zero, List.set_cons_succ])
  refine any_take (i := 3) (v := .int .i64 m.n) rfl (by kernel_rfl) (by kernel_rfl) (by kernel_rfl) (by exact fun _ _ _ h => h) (by rfl) ?_ hS ?_
  · intro W hSW; have c := (im_cells hSW.1).1; go_simp
  (try simp only [Act.put, List.setIfInBounds_toArray, List.set_cons_zero, List.set_cons_succ])
  refine any_take (i := 4) (v := ?_) rfl (by kernel_rfl) (by kernel_rfl) (by kernel_rfl) (by exact fun _ _ _ h => h) (by rfl) ?_ hS ?_
  rotate_left
  · ((intro w hSw; (try dsimp only at hSw); go_simp) <;> with_reducible rfl)
  (try simp only [Act.put, List.setIfInBounds_toArray, List.set_cons_zero, List.set_cons_succ])
  refine any_take (i := 5) (v := ?_) rfl (by kernel_rfl) (by kernel_rfl) (by kernel_rfl) (by exact fun _ _ _ h => h) (by rfl) ?_ hS ?_
  rotate_left
  · ((intro w hSw; (try dsimp only at hSw); go_simp) <;> with_reducible rfl)
  (try simp only [Act.put, List.setIfInBounds_toArray, List.set_cons_zero, List.set_cons_succ])
  refine any_take (i := 6) (v := ?_) rfl (by kernel_rfl) (by kernel_rfl) (by kernel_rfl) (by exact fun _ _ _ h => h) (by rfl) ?_ hS ?_
  rotate_left
  · ((intro w hSw; (try dsimp only at hSw); go_simp) <;> with_reducible rfl)
  (try simp only [Act.put, List.setIfInBounds_toArray, List.set_cons_zero, List.set_cons_succ])
  refine any_take (i := 7) (v := .int .i64 m.n) rfl (by kernel_rfl) (by kernel_rfl) (by kernel_rfl) (by exact fun _ _ _ h => h) (by rfl) ?_ hS ?_
  · intro W hSW; have c := (im_cells hSW.2).1; go_simp
  (try simp only [Act.put, List.setIfInBounds_toArray, List.set_cons_zero, List.set_cons_succ])
  refine any_take (i := 8) (v := ?_) rfl (by kernel_rfl) (by kernel_rfl) (by kernel_rfl) (by exact fun _ _ _ h => h) (by rfl) ?_ hS ?_
  rotate_left
  · ((intro w hSw; (try dsimp only at hSw); go_simp) <;> with_reducible rfl)
  (try simp only [Act.put, List.setIfInBounds_toArray, List.set_cons_zero, List.set_cons_succ])
  refine any_take (i := 9) (v := ?_) rfl (by kernel_rfl) (by kernel_rfl) (by kernel_rfl) (by exact fun _ _ _ h => h) (by rfl) ?_ hS ?_
  rotate_left
  · ((intro w hSw; (try dsimp only at hSw); go_simp) <;> with_reducible rfl)
  (try simp only [Act.put, List.setIfInBounds_toArray, List.set_cons_zero, List.set_cons_succ])
  refine any_take (i := 10) (v := ?_) rfl (by kernel_rfl) (by kernel_rfl) (by kernel_rfl) (by exact fun _ _ _ h => h) (by rfl) ?_ hS ?_
  rotate_left
  · ((intro w hSw; (try dsimp only at hSw); go_simp) <;> with_reducible rfl)
  (try simp only [Act.put, List.setIfInBounds_toArray, List.set_cons_zero, List.set_cons_succ])
  refine any_take (i := 11) (v := ?_) rfl (by kernel_rfl) (by kernel_rfl) (by kernel_rfl) (by exact fun _ _ _ h => h) (by rfl) ?_ hS ?_
  rotate_left
  · ((intro w hSw; (try dsimp only at hSw); go_simp) <;> with_reducible rfl)
  (try simp only [Act.put, List.setIfInBounds_toArray, List.set_cons_zero, List.set_cons_succ])
  refine any_take (i := 12) (v := ?_) rfl (by kernel_rfl) (by kernel_rfl) (by kernel_rfl) (by exact fun _ _ _ h => h) (by rfl) ?_ hS ?_
  rotate_left
  · ((intro w hSw; (try dsimp only at hSw); go_simp) <;> with_reducible rfl)
  (try simp only [Act.put, List.setIfInBounds_toArray, List.set_cons_zero, List.set_cons_succ])
  refine any_take (i := 13) (v := .map (some b1)) rfl (by kernel_rfl) (by kernel_rfl) (by kernel_rfl) (by exact fun _ _ _ h => h) (by rfl) ?_ hS ?_
  · intro W hSW; have c := (im_cells hSW.1).2; go_simp
  (try simp only [Act.put, List.setIfInBounds_toArray, List.set_cons_zero, List.set_cons_succ])
  refine any_take (i := 14) (v := ?_) rfl (by kernel_rfl) (by kernel_rfl) (by kernel_rfl) (by exact fun _ _ _ h => h) (by rfl) ?_ hS ?_
  rotate_left
  · ((intro w hSw; (try dsimp only at hSw); go_simp) <;> with_reducible rfl)
  (try simp only [Act.put, List.setIfInBounds_toArray, List.set_cons_zero, List.set_cons_succ])
  refine any_take (i := 15) (v := ?_) rfl (by kernel_rfl) (by kernel_rfl) (by kernel_rfl) (by exact fun _ _ _ h => h) (by rfl) ?_ hS ?_
  rotate_left
  · ((intro w hSw; (try dsimp only at hSw); go_simp) <;> with_reducible rfl)
  (try simp only [Act.put, List.setIfInBounds_toArray, List.set_cons_zero, List.set_cons_succ])
  refine any_take (i := 16) (v := ?_) rfl (by kernel_rfl) (by kernel_rfl) (by kernel_rfl) (by exact fun _ _ _ h => h) (by rfl) ?_ hS ?_
  rotate_left
  · ((intro w hSw; (try dsimp only at hSw); go_simp) <;> with_reducible rfl)
  (try simp only [Act.put, List.setIfInBounds_toArray, List.set_cons_zero, List.set_cons_succ])
  refine any_take (i := 17) (v := .map (some b2)) rfl (by kernel_rfl) (by kernel_rfl) (by kernel_rfl) (by exact fun _ _ _ h => h) (by rfl) ?_ hS ?_
  · intro W hSW; have c := (im_cells hSW.2).2; go_simp
  (try simp only [Act.put, List.setIfInBounds_toArray, List.set_cons_zero, List.set_cons_succ])
  refine any_one (i := 18) rfl (by kernel_rfl) (fun K hK => ?_)
  go_simp
  refine (Calls.mono HE.out) ?_
  rintro e x1 ⟨rfl, bx⟩
  go_wp2_with fail
  refine hK.out _ _ ⟨Sd.1.later bx, Sd.2.later bx⟩ ?_
  clear hK K hS
  have hS : (im g1 b1 m).Ok x1 ∧ (im g2 b2 m).Ok x1 := ⟨Sd.1.later bx, Sd.2.later bx⟩
  refine any_take (i := 19) (v := ?_) rfl (by kernel_rfl) (by kernel_rfl) (by kernel_rfl) (by exact fun _ _ _ h => h) (by rfl) ?_ hS ?_
  rotate_left
  · ((intro w hSw; (try dsimp only at hSw); go_simp) <;> with_reducible rfl)
  (try simp only [Act.put, List.setIfInBounds_toArray, List.set_cons_zero, List.set_cons_succ])
  refine any_take (i := 20) (v := ?_) rfl (by kernel_rfl) (by kernel_rfl) (by kernel_rfl) (by exact fun _ _ _ h => h) (by rfl) ?_ hS ?_
  rotate_left
  · ((intro w hSw; (try dsimp only at hSw); go_simp) <;> with_reducible rfl)
  (try simp only [Act.put, List.setIfInBounds_toArray, List.set_cons_zero, List.set_cons_succ])
  refine wpAnyH_done (by kernel_rfl) ?_ _
  have F : Hid _ := below_then (Below.refl w.heap.size w).drew bx
  clear bx hS Sd
  go_wp2_with fail
  go_ret
  exact ⟨rfl, F.out⟩
end Go.Proofs.Ytmkacgdbmojomaa
