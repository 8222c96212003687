/- Close. -/
import Derived.Test.YtgonglbgejaffaaXCp5
import Derived.Defers
import Derived.Laws.Pointers
import Derived.Laws.LoneSync
import Derived.RegionTactic
import Derived.RegionCalls
namespace Go.Proofs.Ytgonglbgejaffaa
open Go.RowKit
set_option linter.unusedVariables false
set_option maxRecDepth 100000

theorem mk_disable7 (w : World) : (callFunc 98 #[]).run Try.prog w = .ok (.value (.tuple #[])) w := run_call_mark0 Try.func98 (by kernel_rfl) (by kernel_rfl) (by kernel_rfl) .disable (by kernel_rfl) w
theorem mk_enable7 (w : World) : (callFunc 100 #[]).run Try.prog w = .ok (.value (.tuple #[])) w := run_call_mark0 Try.func100 (by kernel_rfl) (by kernel_rfl) (by kernel_rfl) .enable (by kernel_rfl) w
theorem mk_acquire7 (a : Addr) (w : World) : (callFunc 101 #[.pointer (some a)]).run Try.prog w = .ok (.value (.tuple #[])) w := run_call_marked Try.func101 (by kernel_rfl) (by kernel_rfl) (by kernel_rfl) .acquire (by kernel_rfl) a w
theorem mk_release7 (a : Addr) (w : World) : (callFunc 103 #[.pointer (some a)]).run Try.prog w = .ok (.value (.tuple #[])) w := run_call_marked Try.func103 (by kernel_rfl) (by kernel_rfl) (by kernel_rfl) .releaseMerge (by kernel_rfl) a w
theorem on_store7 (a : Addr) (x : Value) (u : FrameMode) (w : World) (hc : w.cell? a = some x) (hz : w.frozen? a = false) :
    CallsD Try.prog 82 #[.pointer (some a), .bool true] u w fun e u' w' => u' = u ∧ (e = .returned (.tuple #[]) ∧ w' = w.drew.setCell a (.int .u32 1)) := by
  have hc' : w.drew.cell? a = some x := by go_simp
  have hz' : w.drew.frozen? a = false := by go_simp
  have hst := run_call_store (P := Try.prog) Try.func96 (by kernel_rfl) (by kernel_rfl) (by kernel_rfl) (by kernel_rfl) (k := .u32) (y := 1) hc' hz'
  go_enter_d Try.func82, Try.ntmps82
  go_wp2
  go_region_calls
  all_goals (go_end0; exact ⟨rfl, rfl⟩)
theorem on_unlock7 (a : Addr) (u : FrameMode) (w : World) (hc : w.cell? a = some (.int .i32 1)) (hz : w.frozen? a = false) :
    CallsD Try.prog 81 #[.pointer (some a)] u w fun e u' w' => u' = u ∧ (e = .returned (.tuple #[]) ∧ w' = w.setCell a (.int .i32 0)) := by
  have hd := mk_disable7
  have he := mk_enable7
  have hr := mk_release7
  have hadd := run_call_add (P := Try.prog) Try.func104 (by kernel_rfl) (by kernel_rfl) (by kernel_rfl) .i32 (by kernel_rfl) (y := -1) (s := 0) hc hz (by simp [go_sem]; rfl)
  have hcv := run_convert_to_unsafe (P := Try.prog) (src := 145) (dst := 149) Try.underlying145 Try.underlying149 (by kernel_rfl) hc
  go_enter_d Try.func81, Try.ntmps81
  go_wp2
  go_end0
  go_wp2
  go_end0
  exact ⟨rfl, rfl⟩
theorem on_lock7 (a : Addr) (w : World) (hc : w.cell? a = some (.int .i32 0)) (hz : w.frozen? a = false) :
    Calls Try.prog 80 #[.pointer (some a)] w fun e w' => e = .returned (.tuple #[]) ∧ w' = w.setCell a (.int .i32 1) := by
  have hd := mk_disable7
  have he := mk_enable7
  have ha := mk_acquire7
  have hcas := run_call_cas_hit (P := Try.prog) Try.func99 (by kernel_rfl) (by kernel_rfl) (by kernel_rfl) .i32 (by kernel_rfl) (y := 1) hc hz
  have hc' : (w.setCell a (.int .i32 1)).cell? a = some (.int .i32 1) := World.cell?_setCell_same w a _ hc
  have hcv := run_convert_to_unsafe (P := Try.prog) (src := 145) (dst := 149) Try.underlying145 Try.underlying149 (by kernel_rfl) hc'
  go_enter Try.func80, Try.ntmps80
  go_wp2
  first | go_end0 | (simp only [Exit.inBlock, Exit.then]; refine bodyPost_ret (results_none rfl _ _ _) rfl ?_) | refine bodyPost_ret (results_none rfl _ _ _) rfl ?_
  go_wp2
  go_end0
  exact ⟨rfl, rfl⟩

/-- what a closing does to memory -/
def shutW7 (w : World) (g fb : Nat) : World := (((((w.setCell ⟨g, 7, none⟩ (.int .i32 1)).setCell ⟨g, 9, none⟩ (.bool true)).setCell ⟨fb, 0, none⟩ (.bool true)).drew.setCell ⟨g, 6, none⟩ (.int .u32 1)).setCell ⟨g, 7, none⟩ (.int .i32 0))
set_option maxHeartbeats 1600000 in
theorem slow_close7 (g pl fb : Nat) (x9 xf : Value) (hpg : pl ≠ g) (hfg : fb ≠ g) (hpf : pl ≠ fb) (w : World) (hp : w.cell? ⟨pl, 0, none⟩ = some (.pointer (some ⟨g, 0, none⟩))) (hf : w.cell? ⟨fb, 0, none⟩ = some xf) (zf : w.frozen? ⟨fb, 0, none⟩ = false)
    (h6 : w.cell? ⟨g, 6, none⟩ = some (.int .u32 0)) (h7 : w.cell? ⟨g, 7, none⟩ = some (.int .i32 0)) (h9 : w.cell? ⟨g, 9, none⟩ = some x9) (f6 : w.frozen? ⟨g, 6, none⟩ = false) (f7 : w.frozen? ⟨g, 7, none⟩ = false) (f9 : w.frozen? ⟨g, 9, none⟩ = false) :
    Calls Try.prog 57 #[.pointer (some ⟨g, 6, none⟩), .func (.func 34) #[] #[.pointer (some ⟨pl, 0, none⟩), .pointer (some ⟨fb, 0, none⟩)]] w fun e w' => e = .returned (.tuple #[]) ∧ w' = shutW7 w g fb := by
  have k6 : (w.setCell ⟨g, 7, none⟩ (.int .i32 1)).cell? ⟨g, 6, none⟩ = some (.int .u32 0) := (World.cell?_setCell_other _ ⟨g, 7, none⟩ ⟨g, 6, none⟩ _ (by simp)).trans h6
  have hl := run_call_load (P := Try.prog) Try.func79 (by kernel_rfl) (by kernel_rfl) (by kernel_rfl) .u32 (by kernel_rfl) (w := w.setCell ⟨g, 7, none⟩ (.int .i32 1)) (a := ⟨g, 6, none⟩) (x := 0) k6
  have hp1 : (w.setCell ⟨g, 7, none⟩ (.int .i32 1)).cell? ⟨pl, 0, none⟩ = some (.pointer (some ⟨g, 0, none⟩)) := (World.cell?_setCell_other _ ⟨g, 7, none⟩ ⟨pl, 0, none⟩ _ (fun h => hpg (by simpa using (congrArg Addr.block h).symm))).trans hp
  have h91 : (w.setCell ⟨g, 7, none⟩ (.int .i32 1)).cell? ⟨g, 9, none⟩ = some x9 := (World.cell?_setCell_other _ ⟨g, 7, none⟩ ⟨g, 9, none⟩ _ (by simp)).trans h9
  have hf1 : ((w.setCell ⟨g, 7, none⟩ (.int .i32 1)).setCell ⟨g, 9, none⟩ (.bool true)).cell? ⟨fb, 0, none⟩ = some xf :=
    (World.cell?_setCell_other _ ⟨g, 9, none⟩ ⟨fb, 0, none⟩ _ (fun h => hfg (by simpa using (congrArg Addr.block h).symm))).trans ((World.cell?_setCell_other _ ⟨g, 7, none⟩ ⟨fb, 0, none⟩ _ (fun h => hfg (by simpa using (congrArg Addr.block h).symm))).trans hf)
  have hnot : ∀ (x : Bool) (w : World), (Op.unary .not (.bool x)).run Try.prog w = .ok (.bool (!x)) w := fun _ _ => rfl
  unfold shutW7
  go_enter_defers Try.func57, Try.ntmps57
  go_wp2_with (go_at_call 80; refine (on_lock7 ⟨g, 7, none⟩ _ (by go_simp) (by go_simp)).mono ?_; rintro e w' ⟨rfl, rfl⟩)
  go_wp2
  go_end0
  go_wp2
  have q6 : (((w.setCell ⟨g, 7, none⟩ (.int .i32 1)).setCell ⟨g, 9, none⟩ (.bool true)).setCell ⟨fb, 0, none⟩ (.bool true)).cell? ⟨g, 6, none⟩ = some (.int .u32 0) :=
    (World.cell?_setCell_other _ ⟨fb, 0, none⟩ ⟨g, 6, none⟩ _ (fun h => hfg (by simpa using congrArg Addr.block h))).trans ((World.cell?_setCell_other _ ⟨g, 9, none⟩ ⟨g, 6, none⟩ _ (by simp)).trans k6)
  have q7 : (((w.setCell ⟨g, 7, none⟩ (.int .i32 1)).setCell ⟨g, 9, none⟩ (.bool true)).setCell ⟨fb, 0, none⟩ (.bool true)).cell? ⟨g, 7, none⟩ = some (.int .i32 1) :=
    (World.cell?_setCell_other _ ⟨fb, 0, none⟩ ⟨g, 7, none⟩ _ (fun h => hfg (by simpa using congrArg Addr.block h))).trans ((World.cell?_setCell_other _ ⟨g, 9, none⟩ ⟨g, 7, none⟩ _ (by simp)).trans (World.cell?_setCell_same w _ _ h7))
  refine leaves_cons (f := 82) (args := #[.pointer (some ⟨g, 6, none⟩), .bool true]) (by simp) (by simp [go_sem]) ?_
  refine (on_store7 ⟨g, 6, none⟩ (.int .u32 0) .returning _ q6 (by simp [f6])).mono ?_
  rintro e u' w'' ⟨rfl, rfl, rfl⟩
  refine leaves_cons (f := 81) (args := #[.pointer (some ⟨g, 7, none⟩)]) (by simp [settle]) (by simp [go_sem]) ?_
  refine (on_unlock7 ⟨g, 7, none⟩ _ _ ?_ (by simp [f7])).mono ?_
  · refine (World.cell?_setCell_other _ ⟨g, 6, none⟩ ⟨g, 7, none⟩ _ (by simp)).trans ?_
    rw [World.cell?_drew]
    exact q7
  rintro e u' w'' ⟨rfl, rfl, rfl⟩
  simp [Leaves, settle, results, Try.results57]
set_option maxHeartbeats 1600000 in
theorem do_close7 (g pl fb : Nat) (x9 xf : Value) (hpg : pl ≠ g) (hfg : fb ≠ g) (hpf : pl ≠ fb) (w : World) (hp : w.cell? ⟨pl, 0, none⟩ = some (.pointer (some ⟨g, 0, none⟩))) (hf : w.cell? ⟨fb, 0, none⟩ = some xf) (zf : w.frozen? ⟨fb, 0, none⟩ = false)
    (h6 : w.cell? ⟨g, 6, none⟩ = some (.int .u32 0)) (h7 : w.cell? ⟨g, 7, none⟩ = some (.int .i32 0)) (h9 : w.cell? ⟨g, 9, none⟩ = some x9) (f6 : w.frozen? ⟨g, 6, none⟩ = false) (f7 : w.frozen? ⟨g, 7, none⟩ = false) (f9 : w.frozen? ⟨g, 9, none⟩ = false) :
    Calls Try.prog 33 #[.pointer (some ⟨g, 6, none⟩), .func (.func 34) #[] #[.pointer (some ⟨pl, 0, none⟩), .pointer (some ⟨fb, 0, none⟩)]] w fun e w' => e = .returned (.tuple #[]) ∧ w' = shutW7 w g fb := by
  have hl := run_call_load (P := Try.prog) Try.func79 (by kernel_rfl) (by kernel_rfl) (by kernel_rfl) .u32 (by kernel_rfl) h6
  have hnot : ∀ (x : Bool) (w : World), (Op.unary .not (.bool x)).run Try.prog w = .ok (.bool (!x)) w := fun _ _ => rfl
  go_enter Try.func33, Try.ntmps33
  go_wp2_with (first | (go_at_call 57; refine (slow_close7 g pl fb x9 xf hpg hfg hpf _ hp hf zf h6 h7 h9 f6 f7 f9).mono ?_; rintro e w' ⟨rfl, rfl⟩) | (go_at_call 56; go_in))
  go_end0
  exact ⟨rfl, rfl⟩
theorem do_closed7 (a : Addr) (fv : Value) (w : World) (h0 : w.cell? a = some (.int .u32 1)) :
    Calls Try.prog 33 #[.pointer (some a), fv] w fun e w' => e = .returned (.tuple #[]) ∧ w' = w := by
  have hl := run_call_load (P := Try.prog) Try.func79 (by kernel_rfl) (by kernel_rfl) (by kernel_rfl) .u32 (by kernel_rfl) h0
  have hnot : ∀ (x : Bool) (w : World), (Op.unary .not (.bool x)).run Try.prog w = .ok (.bool (!x)) w := fun _ _ => rfl
  go_enter Try.func33, Try.ntmps33
  go_wp2
  go_end0
  exact ⟨rfl, rfl⟩
/-- closed -/
def CQl.shut (p : CQl) : CQl := ⟨p.g, p.t, p.d, p.vs, .int .u32 1, true⟩
theorem shut_same {p : CQl} (hon : p.c6 = .int .u32 (if p.cl = true then 1 else 0)) (hc : p.cl = true) : p.shut = p := by
  rw [hc, if_pos rfl] at hon
  unfold CQl.shut
  rw [← hon, ← hc]
set_option maxHeartbeats 1000000 in
theorem shut_step7 {p : CQl} {m : CR} {w : World} (h : (cqOb p m).Ok w) (fb : Nat) (hfb : fb < w.heap.size) (hn : ∀ k, k ∈ (cqOb p m).W ∨ k ∈ (cqOb p m).V → k ≠ fb) {w0 : World} (s0 : Step w0 w (cqOb p m) (cqOb p m)) (h0 : w0.heap.size ≤ fb) : Step w0 (shutW7 w p.g fb) (cqOb p m) (cqOb p.shut m) := by
  have hP := h.holds
  have hs : ∀ k, k ≠ p.g → k ≠ fb → (shutW7 w p.g fb).heap[k]? = w.heap[k]? := fun k h1 h2 => by
    unfold shutW7
    rw [Below.heap_setCell _ _ _ _ h1, Below.heap_setCell _ _ _ _ h1]
    show ((((w.setCell ⟨p.g, 7, none⟩ (.int .i32 1)).setCell ⟨p.g, 9, none⟩ (.bool true)).setCell ⟨fb, 0, none⟩ (.bool true)).heap[k]? = _)
    rw [Below.heap_setCell _ _ _ _ h2, Below.heap_setCell _ _ _ _ h1, Below.heap_setCell _ _ _ _ h1]
  have hz : (shutW7 w p.g fb).heap.size = w.heap.size := by simp [shutW7, World.setCell, World.drew]
  have hg : p.g ∈ (cqOb p m).W := mem_cqW.2 (.inl rfl)
  have hgf : p.g ≠ fb := hn p.g (.inl hg)
  have hB : Blk (shutW7 w p.g fb) p.g 74 [.int .i64 m.id, .int .u32 m.s, p.tv m.ps.length, p.dv m.ps, .int .i64 (lenOf m.ps), .int .i64 m.ad, .int .u32 1, .int .i32 0, .int .u32 0, .bool true] := by
    have b1 := (hP.blk.set 7 (.int .i32 1)).set 9 (.bool true)
    simp only [List.set_cons_succ, List.set_cons_zero] at b1
    have b2 : Blk (((w.setCell ⟨p.g, 7, none⟩ (.int .i32 1)).setCell ⟨p.g, 9, none⟩ (.bool true)).setCell ⟨fb, 0, none⟩ (.bool true)) p.g 74 [.int .i64 m.id, .int .u32 m.s, p.tv m.ps.length, p.dv m.ps, .int .i64 (lenOf m.ps), .int .i64 m.ad, p.c6, .int .i32 1, .int .u32 0, .bool true] := by
      unfold Blk; rw [Below.heap_setCell _ _ _ _ hgf]; exact b1
    have b2' : Blk (((w.setCell ⟨p.g, 7, none⟩ (.int .i32 1)).setCell ⟨p.g, 9, none⟩ (.bool true)).setCell ⟨fb, 0, none⟩ (.bool true)).drew p.g 74 [.int .i64 m.id, .int .u32 m.s, p.tv m.ps.length, p.dv m.ps, .int .i64 (lenOf m.ps), .int .i64 m.ad, p.c6, .int .i32 1, .int .u32 0, .bool true] := b2
    have b3 := (b2'.set 6 (.int .u32 1)).set 7 (.int .i32 0)
    simp only [List.set_cons_succ, List.set_cons_zero] at b3
    exact b3
  have z0 := s0.turned.size
  have hother : ∀ k T xs, Blk w k T xs → k ≠ p.g → k ≠ fb → Blk (shutW7 w p.g fb) k T xs := fun k T xs hk h1 h2 => by unfold Blk at *; rw [hs k h1 h2]; exact hk
  refine ⟨s0.turned.trans ⟨rfl, rfl, rfl, by rw [hz]; exact Nat.le_refl _, fun k hk hr => ?_⟩, cqOb_ok ⟨hB, fun e => ?_, fun e f => ?_, hP.len, hP.over, fun e i o hi => ?_, hP.ad, rfl⟩, s0.writes, s0.reads⟩
  · exact hs k (fun e => hr (.inl (by subst e; exact hg))) (fun e => hr (.inr (by omega)))
  · exact hother _ _ _ (hP.there e) (blk_ne (hP.there e) hP.blk (by decide)) (hn _ (.inl (mem_cqW.2 (.inr (.inl ⟨e, rfl⟩)))))
  · exact hother _ _ _ (hP.data e f) (blk_ne (hP.data e f) hP.blk (by decide)) (hn _ (.inl (mem_cqW.2 (.inr (.inr ⟨e, f, rfl⟩)))))
  · obtain ⟨v, hv, ho⟩ := hP.each e i o hi
    exact ⟨v, hv, Own.same ho (fun k hk => hs k (own_apart ho hP.blk (by decide) k hk) (hn k (.inr (List.mem_filterMap.2 ⟨v, List.mem_of_getElem? hv, hk⟩))))⟩
set_option maxHeartbeats 1600000 in
theorem cqClose_any (p : CQl) (m : CR) (w : World) (h : (cqOb p m).Ok w) :
    Calls Try.prog 15 #[.pointer (some ⟨p.g, 0, none⟩)] w fun e w' => e = .returned (.bool (!p.cl)) ∧ Step w w' (cqOb p m) (cqOb p.shut m) := by
  have hmf : ∀ (fn : Fn) (first cap : Array Value) (w : World), (Instr.makeFunc fn first cap).run Try.prog w = .ok (.func fn first cap) w := fun _ _ _ _ => rfl
  have b0 : Below w.heap.size w (w.alloc (.cells #[.pointer (some ⟨p.g, 0, none⟩)] 35)) := (Below.refl _ _).alloc (Nat.le_refl _) _
  have B0 := Blk.new' w 35 [.pointer (some ⟨p.g, 0, none⟩)]
  have z0 : (w.alloc (.cells #[.pointer (some ⟨p.g, 0, none⟩)] 35)).heap.size = w.heap.size + 1 := by simp
  have b1 : Below (w.alloc (.cells #[.pointer (some ⟨p.g, 0, none⟩)] 35)).heap.size (w.alloc (.cells #[.pointer (some ⟨p.g, 0, none⟩)] 35)) ((w.alloc (.cells #[.pointer (some ⟨p.g, 0, none⟩)] 35)).alloc (.cells #[.bool false] 4)) := (Below.refl _ _).alloc (Nat.le_refl _) _
  have B1 := Blk.new' (w.alloc (.cells #[.pointer (some ⟨p.g, 0, none⟩)] 35)) 4 [.bool false]
  rw [z0] at B1
  have B0' := B0.laterB b1
  have bb := below_then b0 b1
  have z1 : ((w.alloc (.cells #[.pointer (some ⟨p.g, 0, none⟩)] 35)).alloc (.cells #[.bool false] 4)).heap.size = w.heap.size + 2 := by simp
  have h2 := h.later bb
  have hD := h2.holds.blk
  have c6 := blk_at hD 6
  have c7 := blk_at hD 7
  have c9 := blk_at hD 9
  simp only [List.getElem?_cons_zero, List.getElem?_cons_succ] at c6 c7 c9
  have hgl : p.g < w.heap.size := h.lt p.g (.inl (mem_cqW.2 (.inl rfl)))
  have y0 := B0'.cell (by simp [maxLen]) 0 (by simp)
  have y1 := B1.cell (by simp [maxLen]) 0 (by simp)
  simp only [List.getElem?_cons_zero] at y0 y1
  have hon := h.holds.once
  cases hc : p.cl with
  | true =>
    have c6' : ((w.alloc (.cells #[.pointer (some ⟨p.g, 0, none⟩)] 35)).alloc (.cells #[.bool false] 4)).cell? ⟨p.g, 6, none⟩ = some (.int .u32 1) := by rw [c6, hon, hc]; rfl
    have e : p.shut = p := shut_same hon hc
    rw [e]
    have HD : Hid _ := fun fv => do_closed7 ⟨p.g, 6, none⟩ fv _ c6'
    have HS : Hid _ := Step.quiet h bb
    clear h h2 hD b0 B0 b1 B1 B0' bb z0 z1 c6 c7 c9 c6' e hc hon
    generalize p.g = g at *
    go_enter Try.func15, Try.ntmps15
    go_wp2_with (go_at_call 33; refine (Calls.mono (HD.out _)) ?_; rintro e w' ⟨rfl, rfl⟩)
    go_ret
    exact ⟨rfl, HS.out⟩
  | false =>
    have c6' : ((w.alloc (.cells #[.pointer (some ⟨p.g, 0, none⟩)] 35)).alloc (.cells #[.bool false] 4)).cell? ⟨p.g, 6, none⟩ = some (.int .u32 0) := by rw [c6, hon, hc]; rfl
    have fz := fun i => hD.frozen (by simp [maxLen]) i
    have hd := do_close7 p.g w.heap.size (w.heap.size + 1) _ _ (by omega) (by omega) (by omega) _ y0 y1 (blk_frozen B1 0) c6' c7 c9 (fz 6) (fz 7) (fz 9)
    have HD : Hid _ := hd
    have HS : Hid _ := shut_step7 h2 (w.heap.size + 1) (by omega) (fun k hk => by have := h.lt k hk; omega) (Step.quiet h bb) (by omega)
    have B1' : Blk (shutW7 ((w.alloc (.cells #[.pointer (some ⟨p.g, 0, none⟩)] 35)).alloc (.cells #[.bool false] 4)) p.g (w.heap.size + 1)) (w.heap.size + 1) 4 [.bool true] := by
      have hne : w.heap.size + 1 ≠ p.g := by omega
      unfold Blk shutW7
      rw [Below.heap_setCell _ _ _ _ hne, Below.heap_setCell _ _ _ _ hne]
      have b1 : Blk (((w.alloc (.cells #[.pointer (some ⟨p.g, 0, none⟩)] 35)).alloc (.cells #[.bool false] 4)).setCell ⟨p.g, 7, none⟩ (.int .i32 1)) (w.heap.size + 1) 4 [.bool false] := by unfold Blk; rw [Below.heap_setCell _ _ _ _ hne]; exact B1
      have b2 : Blk ((((w.alloc (.cells #[.pointer (some ⟨p.g, 0, none⟩)] 35)).alloc (.cells #[.bool false] 4)).setCell ⟨p.g, 7, none⟩ (.int .i32 1)).setCell ⟨p.g, 9, none⟩ (.bool true)) (w.heap.size + 1) 4 [.bool false] := by unfold Blk; rw [Below.heap_setCell _ _ _ _ hne]; exact b1
      have b3 := b2.set 0 (.bool true)
      simp only [List.set_cons_zero] at b3
      exact b3
    have y3 := B1'.cell (by simp [maxLen]) 0 (by simp)
    simp only [List.getElem?_cons_zero] at y3
    clear h h2 hD b0 B0 b1 B1 B0' bb z0 z1 c6 c7 c9 c6' fz hd B1' hc hon
    go_enter Try.func15, Try.ntmps15
    go_wp2_with fail
    refine (Calls.mono HD.out) ?_
    rintro e w' ⟨rfl, hw'⟩
    rw [← hw'] at y3 HS
    clear hw' HD
    go_wp2
    go_ret
    exact ⟨rfl, HS.out⟩
end Go.Proofs.Ytgonglbgejaffaa

