/- Close. -/
import Derived.Test.YtgonglbgejaffaaXCk22
import Derived.Defers
import Derived.Laws.Pointers
import Derived.Laws.LoneSync
import Derived.RegionTactic
import Derived.RegionCalls
namespace Go.Proofs.Ytgonglbgejaffaa
open Go.RowKit
set_option linter.unusedVariables false
set_option maxRecDepth 100000

theorem mk_disable7 (w : World) : (callFunc 98 #[]).run Try.prog w = .ok (.value (.tuple #[])) w := run_call_mark0 Try.func98 (by kernel_rfl) (by kernel_rfl) (by kernel_rfl) .disable (by kernel_rfl) w
theorem mk_enable7 (w : World) : (callFunc 100 #[]).run Try.prog w = .ok (.value (.tuple #[])) w := run_call_mark0 Try.func100 (by kernel_rfl) (by kernel_rfl) (by kernel_rfl) .enable (by kernel_rfl) w
theorem mk_acquire7 (a : Addr) (w : World) : (callFunc 101 #[.pointer (some a)]).run Try.prog w = .ok (.value (.tuple #[])) w := run_call_marked Try.func101 (by kernel_rfl) (by kernel_rfl) (by kernel_rfl) .acquire (by kernel_rfl) a w
theorem mk_release7 (a : Addr) (w : World) : (callFunc 103 #[.pointer (some a)]).run Try.prog w = .ok (.value (.tuple #[])) w := run_call_marked Try.func103 (by kernel_rfl) (by kernel_rfl) (by kernel_rfl) .releaseMerge (by kernel_rfl) a w
theorem on_store7 (a : Addr) (x : Value) (u : FrameMode) (w : World) (hc : w.cell? a = some x) (hz : w.frozen? a = false) :
    CallsD Try.prog 82 #[.pointer (some a), .bool true] u w fun e u' w' => u' = u ∧ (e = .returned (.tuple #[]) ∧ w' = w.drew.setCell a (.int .u32 1)) := by
  have hc' : w.drew.cell? a = some x := by go_simp
  have hz' : w.drew.frozen? a = false := by go_simp
  have hst := run_call_store (P := Try.prog) Try.func96 (by kernel_rfl) (by kernel_rfl) (by kernel_rfl) (by kernel_rfl) (k := .u32) (y := 1) hc' hz'
  go_enter_d Try.func82, Try.ntmps82
  go_wp2
  go_region_calls
  all_goals (go_end0; exact ⟨rfl, rfl⟩)
theorem on_unlock7 (a : Addr) (u : FrameMode) (w : World) (hc : w.cell? a = some (.int .i32 1)) (hz : w.frozen? a = false) :
    CallsD Try.prog 81 #[.pointer (some a)] u w fun e u' w' => u' = u ∧ (e = .returned (.tuple #[]) ∧ w' = w.setCell a (.int .i32 0)) := by
  have hd := mk_disable7
  have he := mk_enable7
  have hr := mk_release7
  have hadd := run_call_add (P := Try.prog) Try.func104 (by kernel_rfl) (by kernel_rfl) (by kernel_rfl) .i32 (by kernel_rfl) (y := -1) (s := 0) hc hz (by simp [go_sem]; rfl)
  have hcv := run_convert_to_unsafe (P := Try.prog) (src := 145) (dst := 149) Try.underlying145 Try.underlying149 (by kernel_rfl) hc
  go_enter_d Try.func81, Try.ntmps81
  go_wp2
  go_end0
  go_wp2
  go_end0
  exact ⟨rfl, rfl⟩
theorem on_lock7 (a : Addr) (w : World) (hc : w.cell? a = some (.int .i32 0)) (hz : w.frozen? a = false) :
    Calls Try.prog 80 #[.pointer (some a)] w fun e w' => e = .returned (.tuple #[]) ∧ w' = w.setCell a (.int .i32 1) := by
  have hd := mk_disable7
  have he := mk_enable7
  have ha := mk_acquire7
  have hcas := run_call_cas_hit (P := Try.prog) Try.func99 (by kernel_rfl) (by kernel_rfl) (by kernel_rfl) .i32 (by kernel_rfl) (y := 1) hc hz
  have hc' : (w.setCell a (.int .i32 1)).cell? a = some (.int .i32 1) := World.cell?_setCell_same w a _ hc
  have hcv := run_convert_to_unsafe (P := Try.prog) (src := 145) (dst := 149) Try.underlying145 Try.underlying149 (by kernel_rfl) hc'
  go_enter Try.func80, Try.ntmps80
  go_wp2
  first | go_end0 | (simp only [Exit.inBlock, Exit.then]; refine bodyPost_ret (results_none rfl _ _ _) rfl ?_) | refine bodyPost_ret (results_none rfl _ _ _) rfl ?_
  go_wp2
  go_end0
  exact ⟨rfl, rfl⟩

/-- what a closing does to memory -/
def shutW7 (w : World) (g fb : Nat) : World := (((((w.setCell ⟨g, 7, none⟩ (.int .i32 1)).setCell ⟨g, 9, none⟩ (.bool true)).setCell ⟨fb, 0, none⟩ (.bool true)).drew.setCell ⟨g, 6, none⟩ (.int .u32 1)).setCell ⟨g, 7, none⟩ (.int .i32 0))
set_option maxHeartbeats 1600000 in
theorem slow_close7 (g pl fb : Nat) (x9 xf : Value) (hpg : pl ≠ g) (hfg : fb ≠ g) (hpf : pl ≠ fb) (w : World) (hp : w.cell? ⟨pl, 0, none⟩ = some (.pointer (some ⟨g, 0, none⟩))) (hf : w.cell? ⟨fb, 0, none⟩ = some xf) (zf : w.frozen? ⟨fb, 0, none⟩ = false)
    (h6 : w.cell? ⟨g, 6, none⟩ = some (.int .u32 0)) (h7 : w.cell? ⟨g, 7, none⟩ = some (.int .i32 0)) (h9 : w.cell? ⟨g, 9, none⟩ = some x9) (f6 : w.frozen? ⟨g, 6, none⟩ = false) (f7 : w.frozen? ⟨g, 7, none⟩ = false) (f9 : w.frozen? ⟨g, 9, none⟩ = false) :
    Calls Try.prog 57 #[.pointer (some ⟨g, 6, none⟩), .func (.func 34) #[] #[.pointer (some ⟨pl, 0, none⟩), .pointer (some ⟨fb, 0, none⟩)]] w fun e w' => e = .returned (.tuple #[]) ∧ w' = shutW7 w g fb := by
  have k6 : (w.setCell ⟨g, 7, none⟩ (.int .i32 1)).cell? ⟨g, 6, none⟩ = some (.int .u32 0) := (World.cell?_setCell_other _ ⟨g, 7, none⟩ ⟨g, 6, none⟩ _ (by simp)).trans h6
  have hl := run_call_load (P := Try.prog) Try.func79 (by kernel_rfl) (by kernel_rfl) (by kernel_rfl) .u32 (by kernel_rfl) (w := w.setCell ⟨g, 7, none⟩ (.int .i32 1)) (a := ⟨g, 6, none⟩) (x := 0) k6
  have hp1 : (w.setCell ⟨g, 7, none⟩ (.int .i32 1)).cell? ⟨pl, 0, none⟩ = some (.pointer (some ⟨g, 0, none⟩)) := (World.cell?_setCell_other _ ⟨g, 7, none⟩ ⟨pl, 0, none⟩ _ (fun h => hpg (by simpa using (congrArg Addr.block h).symm))).trans hp
  have h91 : (w.setCell ⟨g, 7, none⟩ (.int .i32 1)).cell? ⟨g, 9, none⟩ = some x9 := (World.cell?_setCell_other _ ⟨g, 7, none⟩ ⟨g, 9, none⟩ _ (by simp)).trans h9
  have hf1 : ((w.setCell ⟨g, 7, none⟩ (.int .i32 1)).setCell ⟨g, 9, none⟩ (.bool true)).cell? ⟨fb, 0, none⟩ = some xf :=
    (World.cell?_setCell_other _ ⟨g, 9, none⟩ ⟨fb, 0, none⟩ _ (fun h => hfg (by simpa using (congrArg Addr.block h).symm))).trans ((World.cell?_setCell_other _ ⟨g, 7, none⟩ ⟨fb, 0, none⟩ _ (fun h => hfg (by simpa using (congrArg Addr.block h).symm))).trans hf)
  have hnot : ∀ (x : Bool) (w : World), (Op.unary .not (.bool x)).run Try.prog w = .ok (.bool (!x)) w := fun _ _ => rfl
  unfold shutW7
  go_enter_defers Try.func57, Try.ntmps57
  go_wp2_with (go_at_call 80; refine (on_lock7 ⟨g, 7, none⟩ _ (by go_simp) (by go_simp)).mono ?_; rintro e w' ⟨rfl, rfl⟩)
  go_wp2
  go_end0
  go_wp2
  have q6 : (((w.setCell ⟨g, 7, none⟩ (.int .i32 1)).setCell ⟨g, 9, none⟩ (.bool true)).setCell ⟨fb, 0, none⟩ (.bool true)).cell? ⟨g, 6, none⟩ = some (.int .u32 0) :=
    (World.cell?_setCell_other _ ⟨fb, 0, none⟩ ⟨g, 6, none⟩ _ (fun h => hfg (by simpa using congrArg Addr.block h))).trans ((World.cell?_setCell_other _ ⟨g, 9, none⟩ ⟨g, 6, none⟩ _ (by simp)).trans k6)
  have q7 : (((w.setCell ⟨g, 7, none⟩ (.int .i32 1)).setCell ⟨g, 9, none⟩ (.bool true)).setCell ⟨fb, 0, none⟩ (.bool true)).cell? ⟨g, 7, none⟩ = some (.int .i32 1) :=
    (World.cell?_setCell_other _ ⟨fb, 0, none⟩ ⟨g, 7, none⟩ _ (fun h => hfg (by simpa using congrArg Addr.block h))).trans ((World.cell?_setCell_other _ ⟨g, 9, none⟩ ⟨g, 7, none⟩ _ (by simp)).trans (World.cell?_setCell_same w _ _ h7))
  refine leaves_cons (f := 82) (args := #[.pointer (some ⟨g, 6, none⟩), .bool true]) (by simp) (by simp [go_sem]) ?_
  refine (on_store7 ⟨g, 6, none⟩ (.int .u32 0) .returning _ q6 (by simp [f6])).mono ?_
  rintro e u' w'' ⟨rfl, rfl, rfl⟩
  refine leaves_cons (f := 81) (args := #[.pointer (some ⟨g, 7, none⟩)]) (by simp [settle]) (by simp [go_sem]) ?_
  refine (on_unlock7 ⟨g, 7, none⟩ _ _ ?_ (by simp [f7])).mono ?_
  · refine (World.cell?_setCell_other _ ⟨g, 6, none⟩ ⟨g, 7, none⟩ _ (by simp)).trans ?_
    rw [World.cell?_drew]
    exact q7
  rintro e u' w'' ⟨rfl, rfl, rfl⟩
  simp [Leaves, settle, results, Try.results57]
set_option maxHeartbeats 1600000 in
theorem do_close7 (g pl fb : Nat) (x9 xf : Value) (hpg : pl ≠ g) (hfg : fb ≠ g) (hpf : pl ≠ fb) (w : World) (hp : w.cell? ⟨pl, 0, none⟩ = some (.pointer (some ⟨g, 0, none⟩))) (hf : w.cell? ⟨fb, 0, none⟩ = some xf) (zf : w.frozen? ⟨fb, 0, none⟩ = false)
    (h6 : w.cell? ⟨g, 6, none⟩ = some (.int .u32 0)) (h7 : w.cell? ⟨g, 7, none⟩ = some (.int .i32 0)) (h9 : w.cell? ⟨g, 9, none⟩ = some x9) (f6 : w.frozen? ⟨g, 6, none⟩ = false) (f7 : w.frozen? ⟨g, 7, none⟩ = false) (f9 : w.frozen? ⟨g, 9, none⟩ = false) :
    Calls Try.prog 33 #[.pointer (some ⟨g, 6, none⟩), .func (.func 34) #[] #[.pointer (some ⟨pl, 0, none⟩), .pointer (some ⟨fb, 0, none⟩)]] w fun e w' => e = .returned (.tuple #[]) ∧ w' = shutW7 w g fb := by
  have hl := run_call_load (P := Try.prog) Try.func79 (by kernel_rfl) (by kernel_rfl) (by kernel_rfl) .u32 (by kernel_rfl) h6
  have hnot : ∀ (x : Bool) (w : World), (Op.unary .not (.bool x)).run Try.prog w = .ok (.bool (!x)) w := fun _ _ => rfl
  go_enter Try.func33, Try.ntmps33
  go_wp2_with (first | (go_at_call 57; refine (slow_close7 g pl fb x9 xf hpg hfg hpf _ hp hf zf h6 h7 h9 f6 f7 f9).mono ?_; rintro e w' ⟨rfl, rfl⟩) | (go_at_call 56; go_in))
  go_end0
  exact ⟨rfl, rfl⟩
theorem do_closed7 (a : Addr) (fv : Value) (w : World) (h0 : w.cell? a = some (.int .u32 1)) :
    Calls Try.prog 33 #[.pointer (some a), fv] w fun e w' => e = .returned (.tuple #[]) ∧ w' = w := by
  have hl := run_call_load (P := Try.prog) Try.func79 (by kernel_rfl) (by kernel_rfl) (by kernel_rfl) .u32 (by kernel_rfl) h0
  have hnot : ∀ (x : Bool) (w : World), (Op.unary .not (.bool x)).run Try.prog w = .ok (.bool (!x)) w := fun _ _ => rfl
  go_enter Try.func33, Try.ntmps33
  go_wp2
  go_end0
  exact ⟨rfl, rfl⟩
/-- closed -/
def CQl.shut (p : CQl) : CQl := ⟨p.g, p.t, p.d, p.vs, .int .u32 1, true⟩
theorem shut_same {p : CQl} (hon : p.c6 = .int .u32 (if p.cl = true then 1 else 0)) (hc : p.cl = true) : p.shut = p := by
  rw [hc, if_pos rfl] at hon
  unfold CQl.shut
  rw [← hon, ← hc]
set_option maxHeartbeats 1000000 in
theorem shut_step7 {p : CQl} {m : CR} {w : World} (h : (cqOb p m).Ok w) (fb : Nat) (hfb : fb < w.heap.size) (hn : ∀ k, k ∈ (cqOb p m).W ∨ k ∈ (cqOb p m).V → k ≠ fb) {w0 : World} (s0 : Step w0 w (cqOb p m) (cqOb p m)) (h0 : w0.heap.size ≤ fb) : Step w0 (shutW7 w p.g fb) (cqOb p m) (cqOb p.shut m) := by
  have hP := h.holds
  have hs : ∀ k, k ≠ p.g → k ≠ fb → (shutW7 w p.g fb).heap[k]? = w.heap[k]? := fun k h1 h2 => by
    unfold shutW7
    rw [Below.heap_setCell _ _ _ _ h1, Below.heap_setCell _ _ _ _ h1]
    show ((((w.setCell ⟨p.g, 7, none⟩ (.int .i32 1)).setCell ⟨p.g, 9, none⟩ (.bool true)).setCell ⟨fb, 0, none⟩ (.bool true)).heap[k]? = _)
    rw [Below.heap_setCell _ _ _ _ h2, Below.heap_setCell _ _ _ _ h1, Below.heap_setCell _ _ _ _ h1]
  have hz : (shutW7 w p.g fb).heap.size = w.heap.size := by simp [shutW7, World.setCell, World.drew]
  have hg : p.g ∈ (cqOb p m).W := mem_cqW.2 (.inl rfl)
  have hgf : p.g ≠ fb := hn p.g (.inl hg)
  have hB : Blk (shutW7 w p.g fb) p.g 74 [.int .i64 m.id, .int .u32 m.s, p.tv m.ps.length, p.dv m.ps, .int .i64 (lenOf m.ps), .int .i64 m.ad, .int .u32 1, .int .i32 0, .int .u32 0, .bool true] := by
    have b1 := (hP.blk.set 7 (.int .i32 1)).set 9 (.bool true)
    simp only [List.set_cons_succ, List.set_cons_zero] at b1
    have b2 : Blk (((w.setCell ⟨p.g, 7, none⟩ (.int .i32 1)).setCell ⟨p.g, 9, none⟩ (.bool true)).setCell ⟨fb, 0, none⟩ (.bool true)) p.g 74 [.int .i64 m.id, .int .u32 m.s, p.tv m.ps.length, p.dv m.ps, .int .i64 (lenOf m.ps), .int .i64 m.ad, p.c6, .int .i32 1, .int .u32 0, .bool true] := by
      unfold Blk; rw [Below.heap_setCell _ _ _ _ hgf]; exact b1
    have b2' : Blk (((w.setCell ⟨p.g, 7, none⟩ (.int .i32 1)).setCell ⟨p.g, 9, none⟩ (.bool true)).setCell ⟨fb, 0, none⟩ (.bool true)).drew p.g 74 [.int .i64 m.id, .int .u32 m.s, p.tv m.ps.length, p.dv m.ps, .int .i64 (lenOf m.ps), .int .i64 m.ad, p.c6, .int .i32 1, .int .u32 0, .bool true] := b2
    have b3 := (b2'.set 6 (.int .u32 1)).set 7 (.int .i32 0)
    simp only [List.set_cons_succ, List.set_cons_zero] at b3
    exact b3
  have z0 := s0.turned.size
  have hother : ∀ k T xs, Blk w k T xs → k ≠ p.g → k ≠ fb → Blk (shutW7 w p.g fb) k T xs := fun k T xs hk h1 h2 => by unfold Blk at *; rw [hs k h1 h2]; exact hk
  refine ⟨s0.turned.trans ⟨rfl, rfl, rfl, by rw [hz]; exact Nat.le_refl _, fun k hk hr => ?_⟩, cqOb_ok ⟨hB, fun e => ?_, fun e f => ?_, hP.len, hP.over, fun e i o hi => ?_, hP.ad, rfl⟩, s0.writes, s0.reads⟩
  · exact hs k (fun e => hr (.inl (by subst e; exact hg))) (fun e => hr (.inr (by omega)))
  · exact hother _ _ _ (hP.there e) (blk_ne (hP.there e) hP.blk (by decide)) (hn _ (.inl (mem_cqW.2 (.inr (.inl ⟨e, rfl⟩)))))
  · exact hother _ _ _ (hP.data e f) (blk_ne (hP.data e f) hP.blk (by decide)) (hn _ (.inl (mem_cqW.2 (.inr (.inr ⟨e, f, rfl⟩)))))
  · obtain ⟨v, hv, ho⟩ := hP.each e i o hi
    exact ⟨v, hv, Own.same ho (fun k hk => hs k (own_apart ho hP.blk (by decide) k hk) (hn k (.inr (List.mem_filterMap.2 ⟨v, List.mem_of_getElem? hv, hk⟩))))⟩
set_option maxHeartbeats 1600000 in
theorem cqClose_any (p : CQl) (m : CR) (w : World) (h : (cqOb p m).Ok w) :
    Calls Try.prog 15 #[.pointer (some ⟨p.g, 0, none⟩)] w fun e w' => e = .returned (.bool (!p.cl)) ∧ Step w w' (cqOb p m) (cqOb p.shut m) := by
  have hmf : ∀ (fn : Fn) (first cap : Array Value) (w : World), (Instr.makeFunc fn first cap).run Try.prog w = .ok (.func fn first cap) w := fun _ _ _ _ => rfl
  have b0 : Below w.heap.size w (w.alloc (.cells #[.pointer (some ⟨p.g, 0, none⟩)] 35)) := (Below.refl _ _).alloc (Nat.le_refl _) _
  have B0 := Blk.new' w 35 [.pointer (some ⟨p.g, 0, none⟩)]
  have z0 : (w.alloc (.cells #[.pointer (some ⟨p.g, 0, none⟩)] 35)).heap.size = w.heap.size + 1 := by simp
  have b1 : Below (w.alloc (.cells #[.pointer (some ⟨p.g, 0, none⟩)] 35)).heap.size (w.alloc (.cells #[.pointer (some ⟨p.g, 0, none⟩)] 35)) ((w.alloc (.cells #[.pointer (some ⟨p.g, 0, none⟩)] 35)).alloc (.cells #[.bool false] 4)) := (Below.refl _ _).alloc (Nat.le_refl _) _
  have B1 := Blk.new' (w.alloc (.cells #[.pointer (some ⟨p.g, 0, none⟩)] 35)) 4 [.bool false]
  rw [z0] at B1
  have B0' := B0.laterB b1
  have bb := below_then b0 b1
  have z1 : ((w.alloc (.cells #[.pointer (some ⟨p.g, 0, none⟩)] 35)).alloc (.cells #[.bool false] 4)).heap.size = w.heap.size + 2 := by simp
  have h2 := h.later bb
  have hD := h2.holds.blk
  have c6 := blk_at hD 6
  have c7 := blk_at hD 7
  have c9 := blk_at hD 9
  simp only [List.getElem?_cons_zero, List.getElem?_cons_succ] at c6 c7 c9
  have hgl : p.g < w.heap.size := h.lt p.g (.inl (mem_cqW.2 (.inl rfl)))
  have y0 := B0'.cell (by simp [maxLen]) 0 (by simp)
  have y1 := B1.cell (by simp [maxLen]) 0 (by simp)
  simp only [List.getElem?_cons_zero] at y0 y1
  have hon := h.holds.once
  cases hc : p.cl with
  | true =>
    have c6' : ((w.alloc (.cells #[.pointer (some ⟨p.g, 0, none⟩)] 35)).alloc (.cells #[.bool false] 4)).cell? ⟨p.g, 6, none⟩ = some (.int .u32 1) := by rw [c6, hon, hc]; rfl
    have e : p.shut = p := shut_same hon hc
    rw [e]
    have HD : Hid _ := fun fv => do_closed7 ⟨p.g, 6, none⟩ fv _ c6'
    have HS : Hid _ := Step.quiet h bb
    clear h h2 hD b0 B0 b1 B1 B0' bb z0 z1 c6 c7 c9 c6' e hc hon
    generalize p.g = g at *
    go_enter Try.func15, Try.ntmps15
    go_wp2_with (go_at_call 33; refine (Calls.mono (HD.out _)) ?_; rintro e w' ⟨rfl, rfl⟩)
    go_ret
    exact ⟨rfl, HS.out⟩
  | false =>
    have c6' : ((w.alloc (.cells #[.pointer (some ⟨p.g, 0, none⟩)] 35)).alloc (.cells #[.bool false] 4)).cell? ⟨p.g, 6, none⟩ = some (.int .u32 0) := by rw [c6, hon, hc]; rfl
    have fz := fun i => hD.frozen (by simp [maxLen]) i
    have hd := do_close7 p.g w.heap.size (w.heap.size + 1) _ _ (by omega) (by omega) (by omega) _ y0 y1 (blk_frozen B1 0) c6' c7 c9 (fz 6) (fz 7) (fz 9)
    have HD : Hid _ := hd
    have HS : Hid _ := shut_step7 h2 (w.heap.size + 1) (by omega) (fun k hk => by have := h.lt k hk; omega) (Step.quiet h bb) (by omega)
    have B1' : Blk (shutW7 ((w.alloc (.cells #[.pointer (some ⟨p.g, 0, none⟩)] 35)).alloc (.cells #[.bool false] 4)) p.g (w.heap.size + 1)) (w.heap.size + 1) 4 [.bool true] := by
      have hne : w.heap.size + 1 ≠ p.g := by omega
      unfold Blk shutW7
      rw [Below.heap_setCell _ _ _ _ hne, Below.heap_setCell _ _ _ _ hne]
      have b1 : Blk (((w.alloc (.cells #[.pointer (some ⟨p.g, 0, none⟩)] 35)).alloc (.cells #[.bool false] 4)).setCell ⟨p.g, 7, none⟩ (.int .i32 1)) (w.heap.size + 1) 4 [.bool false] := by unfold Blk; rw [Below.heap_setCell _ _ _ _ hne]; exact B1
      have b2 : Blk ((((w.alloc (.cells #[.pointer (some ⟨p.g, 0, none⟩)] 35)).alloc (.cells #[.bool false] 4)).setCell ⟨p.g, 7, none⟩ (.int .i32 1)).setCell ⟨p.g, 9, none⟩ (.bool true)) (w.heap.size + 1) 4 [.bool false] := by unfold Blk; rw [Below.heap_setCell _ _ _ _ hne]; exact b1
      have b3 := b2.set 0 (.bool true)
      simp only [List.set_cons_zero] at b3
      exact b3
    have y3 := B1'.cell (by simp [maxLen]) 0 (by simp)
    simp only [List.getElem?_cons_zero] at y3
    clear h h2 hD b0 B0 b1 B1 B0' bb z0 z1 c6 c7 c9 c6' fz hd B1' hc hon
    go_enter Try.func15, Try.ntmps15
    go_wp2_with fail
    refine (Calls.mono HD.out) ?_
    rintro e w' ⟨rfl, hw'⟩
    rw [← hw'] at y3 HS
    clear hw' HD
    go_wp2
    go_ret
    exact ⟨rfl, HS.out⟩
end Go.Proofs.Ytgonglbgejaffaa

/- What is asked of a reader in whatever state, and of none. -/
namespace Go.Proofs.Ytgonglbgejaffaa
open Go.RowKit
set_option linter.unusedVariables false
set_option linter.unusedSimpArgs false
set_option maxRecDepth 4000

theorem cqId_any (p : CQl) (m : CR) (w : World) (h : (cqOb p m).Ok w) : Calls Try.prog 23 #[.pointer (some ⟨p.g, 0, none⟩)] w fun e w' => e = .returned (.int .i64 m.id) ∧ w = w' := by
  have y0 := blk_at h.holds.blk 0
  simp only [List.getElem?_cons_zero, List.getElem?_cons_succ] at y0
  generalize p.g = g at *
  clear h
  go_enter Try.func23, Try.ntmps23
  go_wp2
  go_ret
  exact ⟨rfl, rfl⟩
theorem cqCount_any (p : CQl) (m : CR) (w : World) (h : (cqOb p m).Ok w) : Calls Try.prog 24 #[.pointer (some ⟨p.g, 0, none⟩)] w fun e w' => e = .returned (.int .i64 m.ps.length) ∧ w = w' := by
  have y2 := blk_at h.holds.blk 2
  simp only [List.getElem?_cons_zero, List.getElem?_cons_succ] at y2
  obtain ⟨ta, hta⟩ := tv_is p m.ps.length
  rw [hta] at y2
  generalize p.g = g at *
  clear h hta
  go_enter Try.func24, Try.ntmps24
  go_wp2
  go_ret
  exact ⟨rfl, rfl⟩
theorem cqAdded_any (p : CQl) (m : CR) (w : World) (h : (cqOb p m).Ok w) : Calls Try.prog 25 #[.pointer (some ⟨p.g, 0, none⟩)] w fun e w' => e = .returned (.int .i64 m.ad) ∧ w = w' := by
  have y5 := blk_at h.holds.blk 5
  simp only [List.getElem?_cons_zero, List.getElem?_cons_succ] at y5
  have HL : Hid _ := atLoad_any p.g 5 m.ad w y5
  generalize p.g = g at *
  clear h y5
  go_enter Try.func25, Try.ntmps25
  go_wp2_with fail
  refine (Calls.mono HL.out) ?_
  rintro e _ ⟨rfl, rfl⟩
  clear HL
  go_wp2
  go_ret
  exact ⟨rfl, rfl⟩
theorem cqId_nil (w : World) : Calls Try.prog 23 #[.pointer none] w fun e w' => e = .returned (.int .i64 0) ∧ Below w.heap.size w w' := by
  have b0 : Below w.heap.size w (w.alloc (.cells #[.pointer none] 35)) := (Below.refl _ _).alloc (Nat.le_refl _) _
  have F : Hid _ := And.intro (Below.refl w.heap.size w) b0
  clear b0
  go_enter Try.func23, Try.ntmps23
  go_wp2
  go_ret
  exact ⟨rfl, by first | exact F.out.1 | exact F.out.2⟩
theorem cqCount_nil (w : World) : Calls Try.prog 24 #[.pointer none] w fun e w' => e = .returned (.int .i64 0) ∧ Below w.heap.size w w' := by
  have b0 : Below w.heap.size w (w.alloc (.cells #[.pointer none] 35)) := (Below.refl _ _).alloc (Nat.le_refl _) _
  have F : Hid _ := And.intro (Below.refl w.heap.size w) b0
  clear b0
  go_enter Try.func24, Try.ntmps24
  go_wp2
  go_ret
  exact ⟨rfl, by first | exact F.out.1 | exact F.out.2⟩
theorem cqAdded_nil (w : World) : Calls Try.prog 25 #[.pointer none] w fun e w' => e = .returned (.int .i64 0) ∧ Below w.heap.size w w' := by
  have b0 : Below w.heap.size w (w.alloc (.cells #[.pointer none] 35)) := (Below.refl _ _).alloc (Nat.le_refl _) _
  have F : Hid _ := And.intro (Below.refl w.heap.size w) b0
  clear b0
  go_enter Try.func25, Try.ntmps25
  go_wp2
  go_ret
  exact ⟨rfl, by first | exact F.out.1 | exact F.out.2⟩
theorem cqClose_nil (w : World) : Calls Try.prog 15 #[.pointer none] w fun e w' => e = .returned (.bool false) ∧ Below w.heap.size w w' := by
  have b0 : Below w.heap.size w (w.alloc (.cells #[.pointer none] 35)) := (Below.refl _ _).alloc (Nat.le_refl _) _
  have F : Hid _ := And.intro (Below.refl w.heap.size w) b0
  clear b0
  go_enter Try.func15, Try.ntmps15
  go_wp2
  go_ret
  exact ⟨rfl, by first | exact F.out.1 | exact F.out.2⟩
theorem cqWhole_nil (w : World) : Calls Try.prog 18 #[.pointer none] w fun e w' => e = .returned (.tuple #[.slice none 0 0, .bool false]) ∧ w = w' := by
  go_enter Try.func18, Try.ntmps18
  go_wp2
  go_ret2
  exact ⟨rfl, rfl⟩
theorem cqAdd_nil (v : Value) (w : World) : Calls Try.prog 16 #[.pointer none, v] w fun e w' => e = .returned (.int .i64 2) ∧ w = w' := by
  go_enter Try.func16, Try.ntmps16
  go_wp2
  go_ret
  exact ⟨rfl, rfl⟩
set_option maxHeartbeats 4000000 in
theorem missing_raw2 (g t : Nat) (ta2 : Option Addr) (bs : List Bool) (c0 c1 c3 c4 c5 c6 c7 c8 c9 : Value) (w : World) (hG : Blk w g 74 [c0, c1, .slice ta2 bs.length bs.length, c3, c4, c5, c6, c7, c8, c9]) (hB : 0 < bs.length → ta2 = some ⟨t, 0, none⟩ ∧ Blk w t 4 (bs.map .bool)) (hl : bs.length ≤ 1000) :
    Calls Try.prog 45 #[.pointer (some ⟨g, 0, none⟩)] w fun e w' => RdSeq w w' e (mis bs bs.length) ∧ Below w.heap.size w w' := by
  have HA : Hid (∀ k (h : k < bs.length) W, Below w.heap.size w W → ta2 = some ⟨t, 0, none⟩ ∧ W.cell? ⟨t, k, none⟩ = some (.bool bs[k])) := fun k h W hW => ⟨(hB (by omega)).1, by rw [blk_at ((hB (by omega)).2.laterB hW) k, List.getElem?_map, List.getElem?_eq_getElem h]; rfl⟩
  have y2 := blk_at hG 2
  simp only [List.getElem?_cons_zero, List.getElem?_cons_succ] at y2
  clear hB hG
  go_enter Try.func45, Try.ntmps45
  go_wp2_with fail
  clear y2
  go_loopw [3, 14] (fun lv iv wr => ∃ (k : Nat), iv = .int .i64 k ∧ k ≤ bs.length ∧ NuI w wr lv (mis bs k)) (fun _ iv _ => bs.length - (intOf iv).toNat)
  case atStart => exact ⟨0, rfl, by omega, NOwn.nil _, (fun b hb => by cases hb), Below.refl _ _⟩
  case round =>
    obtain ⟨k, rfl, hk, hI⟩ := hrel
    obtain ⟨ta, tc, htv, -, -, -⟩ := hI.own.open
    by_cases hlt : k < bs.length
    · obtain ⟨hta2, k1⟩ := HA.out k hlt wr hI.below
      subst hta2
      clear HA
      have q1 : (k : Int) < bs.length := by omega
      have hms := mis_succ bs k
      have hml := mis_len bs k
      rw [List.getElem?_eq_getElem hlt] at hms
      generalize bs[k] = x at *
      generalize hKt : mis bs k = Kt at *
      cases x with
      | true =>
        have HR : Hid _ := And.intro hI hms
        clear hI hms hKt
        rw [htv]
        go_wp2
        go_roundw
        case rel =>
          refine ⟨k + 1, by go_num, by omega, ?_⟩
          rw [HR.out.2, if_neg (by simp), List.append_nil, ← htv]
          exact HR.out.1
        case measure => simp [intOf]; omega
      | false =>
        have bn : Below wr.heap.size wr (wr.alloc (.cells #[.int .i64 k] 3)) := (Below.refl _ _).alloc (Nat.le_refl _) _
        have HN : Hid _ := And.intro (hI.later bn) (And.intro (Blk.new' wr 3 [.int .i64 k]) hms)
        have hul : Kt.length ≤ 1000000 := by omega
        clear hI bn hms hKt
        rw [htv]
        go_wp2_with (at_builtin; refine wpList_append_num _ rfl _ _ rfl _ Kt rfl (by rw [← htv]; exact HN.out.1.own) wr.heap.size k rfl HN.out.2.1 hul ?_)
        intro v' w5 ho5 hg5 hor5
        have R := HN.out.1.put ho5 (by rw [htv]; exact hg5) (by rw [htv, World.size_alloc]; exact hor5)
        obtain ⟨a', c', hv', -, -, -⟩ := ho5.open
        have HR : Hid _ := And.intro R HN.out.2.2
        clear R ho5 hg5 hor5 HN
        rw [hv']
        go_wp2
        go_roundw
        case rel =>
          refine ⟨k + 1, by go_num, by omega, ?_⟩
          rw [HR.out.2, if_pos (by trivial), ← hv']
          exact HR.out.1
        case measure => simp [intOf]; omega
    · obtain rfl : k = bs.length := by omega
      have HV : Hid _ := vals_any ta (mis bs bs.length).length tc wr
      rw [← htv] at HV
      have HI : Hid _ := And.intro hI htv
      clear hI HA
      rw [htv] at HV ⊢
      generalize (mis bs bs.length).length = N at *
      go_wp2_with fail
      refine (Calls.mono HV.out) ?_
      rintro e w3 ⟨c, rfl, hc, Bc, b3⟩
      have F : Hid _ := And.intro (⟨c, _, rfl, Nat.le_trans HI.out.1.below.size hc, Bc, by have := HI.out.1.own.later b3; rw [HI.out.2] at this; exact this, fun b hb => by have := HI.out.1.new b; rw [HI.out.2] at this; exact this hb⟩ : RdSeq w w3 (.returned (.func (.func 87) #[] #[.pointer (some ⟨c, 0, none⟩)])) (mis bs bs.length)) (below_then HI.out.1.below b3)
      clear HV Bc b3 hc HI htv
      go_wp2
      go_ret
      exact F.out
set_option maxHeartbeats 1000000 in
theorem missing_nil7 (w : World) : Calls Try.prog 45 #[.pointer none] w fun e w' => RdSeq w w' e [] ∧ Below w.heap.size w w' := by
  have HV : Hid _ := vals_any none 0 0 w
  go_enter Try.func45, Try.ntmps45
  go_wp2_with fail
  refine (Calls.mono HV.out) ?_
  rintro e w3 ⟨c, rfl, hc, Bc, b3⟩
  have F : Hid _ := And.intro (⟨c, _, rfl, hc, Bc, NOwn.nil _, fun b hb => by cases hb⟩ : RdSeq w w3 (.returned (.func (.func 87) #[] #[.pointer (some ⟨c, 0, none⟩)])) []) b3
  clear HV Bc b3 hc
  go_wp2
  go_ret
  exact F.out
/-- what is missing, as a list -/
theorem cqMissing_any (p : CQl) (m : CR) (w : World) (h : (cqOb p m).Ok w) (hn : m.ps.length ≤ 256) :
    Calls Try.prog 21 #[.pointer (some ⟨p.g, 0, none⟩)] w fun e w' => ∃ v, e = .returned v ∧ NOwn w' v (mis (m.ps.map Option.isSome) m.ps.length) ∧ (∀ k, v.ownBlock = some k → w.heap.size ≤ k) ∧ Below w.heap.size w w' := by
  have hml := mis_len (m.ps.map Option.isSome) m.ps.length
  refine (lawmiss_gen (some ⟨p.g, 0, none⟩) (mis (m.ps.map Option.isSome) m.ps.length) w (by omega) (fun w1 w2 => Below w1.heap.size w1 w2) (fun w1 b1 => ?_) (fun w1 w2 b => ⟨b.size, fun k _ hk => b.block k hk⟩)).mono ?_
  · have hP := (h.later b1).holds
    have hG := hP.blk
    have hT := hP.there
    rw [show m.ps.map isB = (m.ps.map Option.isSome).map Value.bool by rw [List.map_map]; rfl] at hT
    have e : p.tv m.ps.length = .slice (if m.ps.length = 0 then none else some ⟨p.t, 0, none⟩) m.ps.length m.ps.length := by
      unfold CQl.tv
      split
      · rename_i h0; rw [h0]
      · rfl
    rw [e] at hG
    have := missing_raw2 p.g p.t (if m.ps.length = 0 then none else some ⟨p.t, 0, none⟩) (m.ps.map Option.isSome) _ _ _ _ _ _ _ _ _ w1 (by rw [List.length_map]; exact hG) (fun h0 => by rw [List.length_map] at h0; exact ⟨if_neg (by omega), hT (by omega)⟩) (by rw [List.length_map]; omega)
    rw [List.length_map] at this
    exact this
  · rintro e w' ⟨v, rfl, ho, w1, w2, b1, s1, b2, ht, hf⟩
    exact ⟨v, rfl, ho, fun k hk => Nat.le_trans (below_then b1 b2).size (hf k hk), (below_then b1 b2).trans (ht.below _ (Nat.le_trans b1.size b2.size) (fun k e => by omega))⟩
theorem lawmiss_nil7 (w : World) :
    Calls Try.prog 21 #[.pointer none] w fun e w' => ∃ v, e = .returned v ∧ NOwn w' v [] ∧ Below w.heap.size w w' := by
  refine (lawmiss_gen none [] w (by simp) (fun w1 w2 => Below w1.heap.size w1 w2) (fun w1 b1 => missing_nil7 w1) (fun w1 w2 b => ⟨b.size, fun k _ hk => b.block k hk⟩)).mono ?_
  rintro e w' ⟨v, rfl, ho, w1, w2, b1, s1, b2, ht, hf⟩
  exact ⟨v, rfl, ho, (below_then b1 b2).trans (ht.below _ (Nat.le_trans b1.size b2.size) (fun k e => by omega))⟩
end Go.Proofs.Ytgonglbgejaffaa

/- What Add does to a reader in whatever state: the model, and the program's. -/
namespace Go.Proofs.Ytgonglbgejaffaa
open Go.RowKit
set_option linter.unusedVariables false
set_option linter.unusedSimpArgs false
set_option maxRecDepth 4000

def adE (m : CR) (cl : Bool) (l : List (BitVec 8)) : Int :=
  if cl = true then 5 else if dcE l = 0 then (if m.id < (dcR l).1 then 0 else if (dcR l).1 < m.id then 5 else if m.ps.length = (dcR l).2.2.1.toNat ∧ m.s = (dcR l).2.2.2.1 then 0 else 11) else dcE l
def adM (m : CR) (cl : Bool) (l : List (BitVec 8)) : CR :=
  if cl = false ∧ adE m cl l = 0 then addM (setPc (if m.id < (dcR l).1 then begM m (dcR l).1 (dcR l).2.2.2.1 (dcR l).2.2.1.toNat else m) (dcR l).2.1.toNat (dcR l).2.2.2.2) else m
/-- a reader as Add leaves it -/
structure CRw (m : CR) : Prop where
  lo : 0 ≤ m.id
  no : ¬ m.id = 0 → m.ps.length ≠ 0
  few : m.ps.length ≤ 256
  each : ∀ o ∈ m.ps, (o.getD []).length ≤ 4096
theorem cr0_w : CRw cr0 := ⟨Int.le_refl _, fun h => absurd rfl h, Nat.zero_le _, fun o h => by cases h⟩
theorem lenOf_le (ps : List (Option (List (BitVec 8)))) (h : ∀ o ∈ ps, (o.getD []).length ≤ 4096) : lenOf ps ≤ 4096 * ps.length := by
  induction ps with
  | nil => exact Nat.le_refl _
  | cons o ps ih =>
    have h1 := h o (List.mem_cons_self)
    have h2 := ih (fun o' ho' => h o' (List.mem_cons_of_mem _ ho'))
    have e : lenOf (o :: ps) = (o.getD []).length + lenOf ps := rfl
    rw [e, List.length_cons]
    omega
theorem CRw.len {m : CR} (h : CRw m) : lenOf m.ps ≤ 1048576 := by
  have h1 := lenOf_le m.ps h.each
  have h2 := h.few
  omega
theorem rd2_lo (L : List (BitVec 8)) (E : Int) : 0 ≤ (rdNum L E 2).2.2 ∧ (rdNum L E 2).2.2 ≤ 4294967295 := by
  unfold rdNum
  split
  · split
    · rename_i h1 h2
      have hl : (numTo L 0 (2 : Int).toNat).toNat < 4294967296 := num_small _ (by rw [List.length_take]; exact Nat.le_trans (Nat.min_le_left _ _) (by decide))
      show 0 ≤ wrap64 _ ∧ wrap64 _ ≤ _
      generalize (numTo L 0 (2 : Int).toNat).toNat = x at *
      unfold wrap64
      omega
    · exact ⟨Int.le_refl _, by show (0 : Int) ≤ _; omega⟩
  · exact ⟨Int.le_refl _, by show (0 : Int) ≤ _; omega⟩
theorem dcR_bd {l : List (BitVec 8)} (h : dcE l = 0) : ∃ (id : Int) (i cnt : Nat) (s : Int) (d : List (BitVec 8)), dcR l = (id, (i : Int), (cnt : Int), s, d) ∧ 1 ≤ id ∧ i < cnt ∧ cnt ≤ 256 ∧ d.length ≤ 4096 := by
  have hR : dcR l = ((dc1 l).2.2, (dc2 l).2.2, (dc3 l).2.2, (dc4 l).2.2, (dc5 l).2.2) := by unfold dcR; rw [if_pos h]
  have hc : canC (dc1 l).2.2 (dc2 l).2.2 (dc3 l).2.2 (dc5 l).2.2.length = true := by
    unfold dcE at h
    split at h
    · split at h
      · split at h
        · assumption
        · exact absurd h (by decide)
      · exact absurd h (by decide)
    · rename_i h1; exact absurd h h1
  unfold canC idB at hc
  simp only [Bool.and_eq_true, decide_eq_true_eq] at hc
  obtain ⟨h1, h2, h3, h4⟩ := hc
  have h5 : 0 ≤ (dc2 l).2.2 := (rd2_lo _ _).1
  refine ⟨(dc1 l).2.2, (dc2 l).2.2.toNat, (dc3 l).2.2.toNat, (dc4 l).2.2, (dc5 l).2.2, ?_, h1.1, by omega, by omega, by omega⟩
  rw [hR, Int.toNat_of_nonneg h5, Int.toNat_of_nonneg (by omega)]
theorem begM_w {m : CR} {id s : Int} {cnt : Nat} (hid : 1 ≤ id) (hc : 1 ≤ cnt ∧ cnt ≤ 256) : CRw (begM m id s cnt) := by
  refine ⟨by show 0 ≤ id; omega, fun _ => ?_, ?_, fun o ho => ?_⟩
  · show (List.replicate cnt none).length ≠ 0
    rw [List.length_replicate]; omega
  · show (List.replicate cnt none).length ≤ 256
    rw [List.length_replicate]; omega
  · rw [(List.mem_replicate.1 ho).2]; exact Nat.zero_le _
theorem setPc_w {m : CR} (h : CRw m) (i : Nat) (d : List (BitVec 8)) (hd : d.length ≤ 4096) : CRw (addM (setPc m i d)) := by
  unfold setPc
  split
  · refine ⟨h.lo, fun e => ?_, ?_, fun o ho => ?_⟩
    · show (m.ps.set i (some d)).length ≠ 0
      rw [List.length_set]; exact h.no e
    · show (m.ps.set i (some d)).length ≤ 256
      rw [List.length_set]; exact h.few
    · rcases List.mem_or_eq_of_mem_set ho with ho | rfl
      · exact h.each o ho
      · exact hd
  · exact ⟨h.lo, h.no, h.few, h.each⟩
theorem adM_w {m : CR} (h : CRw m) (cl : Bool) (l : List (BitVec 8)) : CRw (adM m cl l) := by
  unfold adM
  split
  · rename_i h0
    have hE : dcE l = 0 := by
      have h1 := h0.2
      unfold adE at h1
      rw [h0.1, if_neg (by decide)] at h1
      split at h1
      · assumption
      · rename_i h2; exact absurd h1 h2
    obtain ⟨id, i, cnt, s, d, hR, h1, h2, h3, h4⟩ := dcR_bd hE
    rw [hR]
    show CRw (addM (setPc (if m.id < id then begM m id s cnt else m) (i : Int).toNat d))
    split
    · exact setPc_w (begM_w h1 ⟨by omega, h3⟩) _ d h4
    · exact setPc_w h _ d h4
  · exact h
theorem adM_ad {m : CR} (cl : Bool) (l : List (BitVec 8)) : m.ad ≤ (adM m cl l).ad ∧ (adM m cl l).ad ≤ m.ad + 1 := by
  unfold adM
  split
  · have e : ∀ c : CR, c.ad = m.ad → (addM (setPc c (dcR l).2.1.toNat (dcR l).2.2.2.2)).ad = m.ad + 1 := fun c hc => by
      show (setPc c _ _).ad + 1 = _
      rw [setPc_ad, hc]
    have e2 : (if m.id < (dcR l).1 then begM m (dcR l).1 (dcR l).2.2.2.1 (dcR l).2.2.1.toNat else m).ad = m.ad := by split <;> rfl
    rw [e _ e2]
    omega
  · omega
theorem cqAdd_any (a : Option Addr) (cap : Nat) (l : List (BitVec 8)) (p : CQl) (m : CR) (w : World) (h : (cqOb p m).Ok w) (hw : CRw m) (hle : l.length ≤ cap) (hr : Row w a l) (hn : a = none → cap = 0) (hlen : l.length ≤ 140737488351232) (hadm : m.ad ≤ 1000000000) :
    Calls Try.prog 16 #[.pointer (some ⟨p.g, 0, none⟩), .slice a l.length cap] w fun e w' => e = .returned (.int .i64 (adE m p.cl l)) ∧ ∃ p', p'.g = p.g ∧ p'.cl = p.cl ∧ Step w w' (cqOb p m) (cqOb p' (adM m p.cl l)) := by
  have keep : ∀ {E : Int}, adE m p.cl l = E → adM m p.cl l = m → ∀ {e : Ending} {w' : World}, e = .returned (.int .i64 E) ∧ Below w.heap.size w w' → e = .returned (.int .i64 (adE m p.cl l)) ∧ ∃ p', p'.g = p.g ∧ p'.cl = p.cl ∧ Step w w' (cqOb p m) (cqOb p' (adM m p.cl l)) := by
    rintro E e1 e2 e w' ⟨rfl, hb⟩
    rw [e1, e2]
    exact ⟨rfl, p, rfl, rfl, Step.quiet h hb⟩
  cases hc : p.cl with
  | true =>
    rw [hc] at keep
    refine (add_closed2 a l.length cap p m w h hc).mono ?_
    rintro e w' ⟨rfl, rfl⟩
    exact keep (E := 5) (by unfold adE; rw [if_pos rfl]) (by unfold adM; rw [if_neg (fun e => absurd e.1 (by decide))]) ⟨rfl, Below.refl _ _⟩
  | false =>
    rw [hc] at keep
    by_cases hE : dcE l = 0
    · obtain ⟨id, i, cnt, s, d, hR, h1, h2, h3, h4⟩ := dcR_bd hE
      have hll := hw.len
      have hEq : adE m false l = (if m.id < id then 0 else if id < m.id then 5 else if m.ps.length = cnt ∧ m.s = s then 0 else 11) := by
        unfold adE
        rw [if_neg (by decide), if_pos hE, hR]
        rfl
      by_cases c1 : m.id < id
      · rw [if_pos c1] at hEq
        have hM : adM m false l = addM (setPc (begM m id s cnt) i d) := by
          unfold adM
          rw [if_pos ⟨rfl, hEq⟩, hR]
          show addM (setPc (if m.id < id then begM m id s (cnt : Int).toNat else m) (i : Int).toNat d) = _
          rw [if_pos c1]
          rfl
        rw [hEq, hM]
        exact add_new2 a cap l p m w h hc hle hr hn hlen hE id s i cnt d hR c1 h2 h3 (by omega) hadm
      · rw [if_neg c1] at hEq
        by_cases c2 : id < m.id
        · rw [if_pos c2] at hEq
          refine (add_old2 a cap l p m w h hc hle hr hn hlen hE id s i cnt d hR c2).mono ?_
          rintro e w' he
          exact keep hEq (by unfold adM; rw [if_neg (fun e => by rw [hEq] at e; exact absurd e.2 (by decide))]) he
        · rw [if_neg c2] at hEq
          have c3 : m.id = id := by omega
          by_cases c4 : m.ps.length = cnt ∧ m.s = s
          · rw [if_pos c4] at hEq
            have hM : adM m false l = addM (setPc m i d) := by
              unfold adM
              rw [if_pos ⟨rfl, hEq⟩, hR]
              show addM (setPc (if m.id < id then begM m id s (cnt : Int).toNat else m) (i : Int).toNat d) = _
              rw [if_neg c1]
              rfl
            rw [hEq, hM]
            exact add_same2 a cap l p m w h hc hle hr hn hlen hE id s i cnt d hR c3 c4.2 c4.1 h2 h3 (by omega) hadm
          · rw [if_neg c4] at hEq
            refine (add_form2 a cap l p m w h hc hle hr hn hlen hE id s i cnt d hR c3 c4).mono ?_
            rintro e w' he
            exact keep hEq (by unfold adM; rw [if_neg (fun e => by rw [hEq] at e; exact absurd e.2 (by decide))]) he
    · have hEq : adE m false l = dcE l := by unfold adE; rw [if_neg (by decide), if_neg hE]
      refine (add_err2 a cap l p m w h hc hle hr hn hlen hE).mono ?_
      rintro e w' he
      exact keep hEq (by unfold adM; rw [if_neg (fun e => hE (by rw [hEq] at e; exact e.2))]) he
end Go.Proofs.Ytgonglbgejaffaa
