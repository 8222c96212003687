/- A world that is closed, once. -/
import Derived.Test.YtjfodmdijajfbaaWo13
import Derived.Defers
import Derived.Laws.Pointers
import Derived.Laws.LoneSync
import Derived.RegionTactic
import Derived.RegionCalls
namespace Go.Proofs.Ytjfodmdijajfbaa
open Go.RowKit
set_option linter.unusedVariables false
set_option maxRecDepth 100000

theorem mk_disable (w : World) : (callFunc 146 #[]).run Try.prog w = .ok (.value (.tuple #[])) w := run_call_mark0 Try.func146 (by kernel_rfl) (by kernel_rfl) (by kernel_rfl) .disable (by kernel_rfl) w
theorem mk_enable (w : World) : (callFunc 148 #[]).run Try.prog w = .ok (.value (.tuple #[])) w := run_call_mark0 Try.func148 (by kernel_rfl) (by kernel_rfl) (by kernel_rfl) .enable (by kernel_rfl) w
theorem mk_acquire (a : Addr) (w : World) : (callFunc 149 #[.pointer (some a)]).run Try.prog w = .ok (.value (.tuple #[])) w := run_call_marked Try.func149 (by kernel_rfl) (by kernel_rfl) (by kernel_rfl) .acquire (by kernel_rfl) a w
theorem mk_release (a : Addr) (w : World) : (callFunc 151 #[.pointer (some a)]).run Try.prog w = .ok (.value (.tuple #[])) w := run_call_marked Try.func151 (by kernel_rfl) (by kernel_rfl) (by kernel_rfl) .releaseMerge (by kernel_rfl) a w
theorem on_store (a : Addr) (x : Value) (u : FrameMode) (w : World) (hc : w.cell? a = some x) (hz : w.frozen? a = false) :
    CallsD Try.prog 122 #[.pointer (some a), .bool true] u w fun e u' w' => u' = u ∧ (e = .returned (.tuple #[]) ∧ w' = w.drew.setCell a (.int .u32 1)) := by
  have hc' : w.drew.cell? a = some x := by go_simp
  have hz' : w.drew.frozen? a = false := by go_simp
  have hst := run_call_store (P := Try.prog) Try.func138 (by kernel_rfl) (by kernel_rfl) (by kernel_rfl) (by kernel_rfl) (k := .u32) (y := 1) hc' hz'
  go_enter_d Try.func122, Try.ntmps122
  go_wp2
  go_region_calls
  all_goals (go_end0; exact ⟨rfl, rfl⟩)
theorem on_unlock (a : Addr) (u : FrameMode) (w : World) (hc : w.cell? a = some (.int .i32 1)) (hz : w.frozen? a = false) :
    CallsD Try.prog 121 #[.pointer (some a)] u w fun e u' w' => u' = u ∧ (e = .returned (.tuple #[]) ∧ w' = w.setCell a (.int .i32 0)) := by
  have hd := mk_disable
  have he := mk_enable
  have hr := mk_release
  have hadd := run_call_add (P := Try.prog) Try.func152 (by kernel_rfl) (by kernel_rfl) (by kernel_rfl) .i32 (by kernel_rfl) (y := -1) (s := 0) hc hz (by simp [go_sem]; rfl)
  have hcv := run_convert_to_unsafe (P := Try.prog) (src := 184) (dst := 188) Try.underlying184 Try.underlying188 (by kernel_rfl) hc
  go_enter_d Try.func121, Try.ntmps121
  go_wp2
  go_end0
  go_wp2
  go_end0
  exact ⟨rfl, rfl⟩
theorem on_lock (a : Addr) (w : World) (hc : w.cell? a = some (.int .i32 0)) (hz : w.frozen? a = false) :
    Calls Try.prog 120 #[.pointer (some a)] w fun e w' => e = .returned (.tuple #[]) ∧ w' = w.setCell a (.int .i32 1) := by
  have hd := mk_disable
  have he := mk_enable
  have ha := mk_acquire
  have hcas := run_call_cas_hit (P := Try.prog) Try.func147 (by kernel_rfl) (by kernel_rfl) (by kernel_rfl) .i32 (by kernel_rfl) (y := 1) hc hz
  have hc' : (w.setCell a (.int .i32 1)).cell? a = some (.int .i32 1) := World.cell?_setCell_same w a _ hc
  have hcv := run_convert_to_unsafe (P := Try.prog) (src := 184) (dst := 188) Try.underlying184 Try.underlying188 (by kernel_rfl) hc'
  go_enter Try.func120, Try.ntmps120
  go_wp2
  first | go_end0 | (simp only [Exit.inBlock, Exit.then]; refine bodyPost_ret (results_none rfl _ _ _) rfl ?_) | refine bodyPost_ret (results_none rfl _ _ _) rfl ?_
  go_wp2
  go_end0
  exact ⟨rfl, rfl⟩

/-- what a closing does to memory -/
def shutW (w : World) (g fb : Nat) : World := (((((w.setCell ⟨g, 7, none⟩ (.int .i32 1)).setCell ⟨g, 9, none⟩ (.bool true)).setCell ⟨fb, 0, none⟩ (.bool true)).drew.setCell ⟨g, 6, none⟩ (.int .u32 1)).setCell ⟨g, 7, none⟩ (.int .i32 0))
set_option maxHeartbeats 1600000 in
theorem slow_close (g pl fb : Nat) (x9 xf : Value) (hpg : pl ≠ g) (hfg : fb ≠ g) (hpf : pl ≠ fb) (w : World) (hp : w.cell? ⟨pl, 0, none⟩ = some (.pointer (some ⟨g, 0, none⟩))) (hf : w.cell? ⟨fb, 0, none⟩ = some xf) (zf : w.frozen? ⟨fb, 0, none⟩ = false)
    (h6 : w.cell? ⟨g, 6, none⟩ = some (.int .u32 0)) (h7 : w.cell? ⟨g, 7, none⟩ = some (.int .i32 0)) (h9 : w.cell? ⟨g, 9, none⟩ = some x9) (f6 : w.frozen? ⟨g, 6, none⟩ = false) (f7 : w.frozen? ⟨g, 7, none⟩ = false) (f9 : w.frozen? ⟨g, 9, none⟩ = false) :
    Calls Try.prog 99 #[.pointer (some ⟨g, 6, none⟩), .func (.func 74) #[] #[.pointer (some ⟨pl, 0, none⟩), .pointer (some ⟨fb, 0, none⟩)]] w fun e w' => e = .returned (.tuple #[]) ∧ w' = shutW w g fb := by
  have k6 : (w.setCell ⟨g, 7, none⟩ (.int .i32 1)).cell? ⟨g, 6, none⟩ = some (.int .u32 0) := (World.cell?_setCell_other _ ⟨g, 7, none⟩ ⟨g, 6, none⟩ _ (by simp)).trans h6
  have hl := run_call_load (P := Try.prog) Try.func119 (by kernel_rfl) (by kernel_rfl) (by kernel_rfl) .u32 (by kernel_rfl) (w := w.setCell ⟨g, 7, none⟩ (.int .i32 1)) (a := ⟨g, 6, none⟩) (x := 0) k6
  have hp1 : (w.setCell ⟨g, 7, none⟩ (.int .i32 1)).cell? ⟨pl, 0, none⟩ = some (.pointer (some ⟨g, 0, none⟩)) := (World.cell?_setCell_other _ ⟨g, 7, none⟩ ⟨pl, 0, none⟩ _ (fun h => hpg (by simpa using (congrArg Addr.block h).symm))).trans hp
  have h91 : (w.setCell ⟨g, 7, none⟩ (.int .i32 1)).cell? ⟨g, 9, none⟩ = some x9 := (World.cell?_setCell_other _ ⟨g, 7, none⟩ ⟨g, 9, none⟩ _ (by simp)).trans h9
  have hf1 : ((w.setCell ⟨g, 7, none⟩ (.int .i32 1)).setCell ⟨g, 9, none⟩ (.bool true)).cell? ⟨fb, 0, none⟩ = some xf :=
    (World.cell?_setCell_other _ ⟨g, 9, none⟩ ⟨fb, 0, none⟩ _ (fun h => hfg (by simpa using (congrArg Addr.block h).symm))).trans ((World.cell?_setCell_other _ ⟨g, 7, none⟩ ⟨fb, 0, none⟩ _ (fun h => hfg (by simpa using (congrArg Addr.block h).symm))).trans hf)
  have hnot : ∀ (x : Bool) (w : World), (Op.unary .not (.bool x)).run Try.prog w = .ok (.bool (!x)) w := fun _ _ => rfl
  unfold shutW
  go_enter_defers Try.func99, Try.ntmps99
  go_wp2_with (go_at_call 120; refine (on_lock ⟨g, 7, none⟩ _ (by go_simp) (by go_simp)).mono ?_; rintro e w' ⟨rfl, rfl⟩)
  go_wp2
  go_end0
  go_wp2
  have q6 : (((w.setCell ⟨g, 7, none⟩ (.int .i32 1)).setCell ⟨g, 9, none⟩ (.bool true)).setCell ⟨fb, 0, none⟩ (.bool true)).cell? ⟨g, 6, none⟩ = some (.int .u32 0) :=
    (World.cell?_setCell_other _ ⟨fb, 0, none⟩ ⟨g, 6, none⟩ _ (fun h => hfg (by simpa using congrArg Addr.block h))).trans ((World.cell?_setCell_other _ ⟨g, 9, none⟩ ⟨g, 6, none⟩ _ (by simp)).trans k6)
  have q7 : (((w.setCell ⟨g, 7, none⟩ (.int .i32 1)).setCell ⟨g, 9, none⟩ (.bool true)).setCell ⟨fb, 0, none⟩ (.bool true)).cell? ⟨g, 7, none⟩ = some (.int .i32 1) :=
    (World.cell?_setCell_other _ ⟨fb, 0, none⟩ ⟨g, 7, none⟩ _ (fun h => hfg (by simpa using congrArg Addr.block h))).trans ((World.cell?_setCell_other _ ⟨g, 9, none⟩ ⟨g, 7, none⟩ _ (by simp)).trans (World.cell?_setCell_same w _ _ h7))
  refine leaves_cons (f := 122) (args := #[.pointer (some ⟨g, 6, none⟩), .bool true]) (by simp) (by simp [go_sem]) ?_
  refine (on_store ⟨g, 6, none⟩ (.int .u32 0) .returning _ q6 (by simp [f6])).mono ?_
  rintro e u' w'' ⟨rfl, rfl, rfl⟩
  refine leaves_cons (f := 121) (args := #[.pointer (some ⟨g, 7, none⟩)]) (by simp [settle]) (by simp [go_sem]) ?_
  refine (on_unlock ⟨g, 7, none⟩ _ _ ?_ (by simp [f7])).mono ?_
  · refine (World.cell?_setCell_other _ ⟨g, 6, none⟩ ⟨g, 7, none⟩ _ (by simp)).trans ?_
    rw [World.cell?_drew]
    exact q7
  rintro e u' w'' ⟨rfl, rfl, rfl⟩
  simp [Leaves, settle, results, Try.results99]
set_option maxHeartbeats 1600000 in
theorem do_close (g pl fb : Nat) (x9 xf : Value) (hpg : pl ≠ g) (hfg : fb ≠ g) (hpf : pl ≠ fb) (w : World) (hp : w.cell? ⟨pl, 0, none⟩ = some (.pointer (some ⟨g, 0, none⟩))) (hf : w.cell? ⟨fb, 0, none⟩ = some xf) (zf : w.frozen? ⟨fb, 0, none⟩ = false)
    (h6 : w.cell? ⟨g, 6, none⟩ = some (.int .u32 0)) (h7 : w.cell? ⟨g, 7, none⟩ = some (.int .i32 0)) (h9 : w.cell? ⟨g, 9, none⟩ = some x9) (f6 : w.frozen? ⟨g, 6, none⟩ = false) (f7 : w.frozen? ⟨g, 7, none⟩ = false) (f9 : w.frozen? ⟨g, 9, none⟩ = false) :
    Calls Try.prog 73 #[.pointer (some ⟨g, 6, none⟩), .func (.func 74) #[] #[.pointer (some ⟨pl, 0, none⟩), .pointer (some ⟨fb, 0, none⟩)]] w fun e w' => e = .returned (.tuple #[]) ∧ w' = shutW w g fb := by
  have hl := run_call_load (P := Try.prog) Try.func119 (by kernel_rfl) (by kernel_rfl) (by kernel_rfl) .u32 (by kernel_rfl) h6
  have hnot : ∀ (x : Bool) (w : World), (Op.unary .not (.bool x)).run Try.prog w = .ok (.bool (!x)) w := fun _ _ => rfl
  go_enter Try.func73, Try.ntmps73
  go_wp2_with (first | (go_at_call 99; refine (slow_close g pl fb x9 xf hpg hfg hpf _ hp hf zf h6 h7 h9 f6 f7 f9).mono ?_; rintro e w' ⟨rfl, rfl⟩) | (go_at_call 98; go_in))
  go_end0
  exact ⟨rfl, rfl⟩
theorem do_closed (a : Addr) (fv : Value) (w : World) (h0 : w.cell? a = some (.int .u32 1)) :
    Calls Try.prog 73 #[.pointer (some a), fv] w fun e w' => e = .returned (.tuple #[]) ∧ w' = w := by
  have hl := run_call_load (P := Try.prog) Try.func119 (by kernel_rfl) (by kernel_rfl) (by kernel_rfl) .u32 (by kernel_rfl) h0
  have hnot : ∀ (x : Bool) (w : World), (Op.unary .not (.bool x)).run Try.prog w = .ok (.bool (!x)) w := fun _ _ => rfl
  go_enter Try.func73, Try.ntmps73
  go_wp2
  go_end0
  exact ⟨rfl, rfl⟩
def Wm.shut (m : Wm) : Wm := { m with cl := true }
theorem shut_wf {m : Wm} (h : m.Wf) : m.shut.Wf := ⟨h.one, h.five, h.full, h.mask, h.each, h.rho1, h.rho2, h.late⟩
set_option maxHeartbeats 1000000 in
theorem shut_step {g : Nat} {p : Wp} {m : Wm} {w : World} (h : (wo g p m).Ok w) (fb : Nat) (hfb : fb < w.heap.size) (hn : ∀ k, k ∈ (wo g p m).W ∨ k ∈ (wo g p m).V → k ≠ fb) {w0 : World} (s0 : Step w0 w (wo g p m) (wo g p m)) (h0 : w0.heap.size ≤ fb) : Step w0 (shutW w g fb) (wo g p m) (wo g p m.shut) := by
  obtain ⟨hnd, fv, vs, hq, hD⟩ := h.holds
  obtain ⟨n1, n2, n3⟩ := wo_ne hnd
  have hs : ∀ k, k ≠ g → k ≠ fb → (shutW w g fb).heap[k]? = w.heap[k]? := fun k h1 h2 => by
    unfold shutW
    rw [Below.heap_setCell _ _ _ _ h1, Below.heap_setCell _ _ _ _ h1]
    show ((((w.setCell ⟨g, 7, none⟩ (.int .i32 1)).setCell ⟨g, 9, none⟩ (.bool true)).setCell ⟨fb, 0, none⟩ (.bool true)).heap[k]? = _)
    rw [Below.heap_setCell _ _ _ _ h2, Below.heap_setCell _ _ _ _ h1, Below.heap_setCell _ _ _ _ h1]
  have hz : (shutW w g fb).heap.size = w.heap.size := by simp [shutW, World.setCell, World.drew]
  have hgf : g ≠ fb := hn g (.inl (by simp [wo]))
  have hB : Blk (shutW w g fb) g 97 [fv, .int .i64 m.cut, .slice (some ⟨p.c, 0, none⟩) m.ck.length m.ck.length, .int .i64 m.rho, .int .i64 m.tk, .int .i64 m.lo, .int .u32 1, .int .i32 0, .int .u32 0, .bool true] := by
    have b1 := (hD.blk.set 7 (.int .i32 1)).set 9 (.bool true)
    simp only [List.set_cons_succ, List.set_cons_zero] at b1
    have b2 : Blk (((w.setCell ⟨g, 7, none⟩ (.int .i32 1)).setCell ⟨g, 9, none⟩ (.bool true)).setCell ⟨fb, 0, none⟩ (.bool true)) g 97 [fv, .int .i64 m.cut, .slice (some ⟨p.c, 0, none⟩) m.ck.length m.ck.length, .int .i64 m.rho, .int .i64 m.tk, .int .i64 m.lo, .int .u32 (b01 m.cl), .int .i32 1, .int .u32 0, .bool true] := by
      unfold Blk; rw [Below.heap_setCell _ _ _ _ hgf]; exact b1
    have b2' : Blk (((w.setCell ⟨g, 7, none⟩ (.int .i32 1)).setCell ⟨g, 9, none⟩ (.bool true)).setCell ⟨fb, 0, none⟩ (.bool true)).drew g 97 [fv, .int .i64 m.cut, .slice (some ⟨p.c, 0, none⟩) m.ck.length m.ck.length, .int .i64 m.rho, .int .i64 m.tk, .int .i64 m.lo, .int .u32 (b01 m.cl), .int .i32 1, .int .u32 0, .bool true] := b2
    have b3 := (b2'.set 6 (.int .u32 1)).set 7 (.int .i32 0)
    simp only [List.set_cons_succ, List.set_cons_zero] at b3
    exact b3
  have z0 := s0.turned.size
  refine ⟨s0.turned.trans ⟨rfl, rfl, rfl, by rw [hz]; exact Nat.le_refl _, fun k hk hr => ?_⟩, wo_ok ⟨hnd, fv, vs, hq, hB, ?_, ?_, ?_⟩ (fun k hk => by rw [hz]; exact h.lt k hk) h.apart, s0.writes, s0.reads⟩
  · refine hs k (fun e => hr (.inl (by subst e; simp [wo]))) (fun e => hr (.inr (by omega)))
  · have := hD.clocks; unfold Blk at *; rw [hs _ (Ne.symm n1) (hn _ (.inl (by simp [wo])))]; exact this
  · exact ownsRow_same hD.letters (fun k hk => hs k (by rintro rfl; exact n2 (hq ▸ hk)) (hn k (.inl (by rw [hq] at hk; simp [wo, hk]))))
  · exact hD.each.same (fun k hk => hs k (by rintro rfl; exact h.apart k (by simp [wo]) hk) (hn k (.inr hk)))
set_option maxHeartbeats 1600000 in
theorem woClose_any (g : Nat) (p : Wp) (m : Wm) (w : World) (h : (wo g p m).Ok w) :
    Calls Try.prog 30 #[.pointer (some ⟨g, 0, none⟩)] w fun e w' => e = .returned (.bool (!m.cl)) ∧ Step w w' (wo g p m) (wo g p m.shut) := by
  have hmf : ∀ (fn : Fn) (first cap : Array Value) (w : World), (Instr.makeFunc fn first cap).run Try.prog w = .ok (.func fn first cap) w := fun _ _ _ _ => rfl
  have b0 : Below w.heap.size w (w.alloc (.cells #[.pointer (some ⟨g, 0, none⟩)] 23)) := (Below.refl _ _).alloc (Nat.le_refl _) _
  have B0 := Blk.new' w 23 [.pointer (some ⟨g, 0, none⟩)]
  have z0 : (w.alloc (.cells #[.pointer (some ⟨g, 0, none⟩)] 23)).heap.size = w.heap.size + 1 := by simp
  have b1 : Below (w.alloc (.cells #[.pointer (some ⟨g, 0, none⟩)] 23)).heap.size (w.alloc (.cells #[.pointer (some ⟨g, 0, none⟩)] 23)) ((w.alloc (.cells #[.pointer (some ⟨g, 0, none⟩)] 23)).alloc (.cells #[.bool false] 4)) := (Below.refl _ _).alloc (Nat.le_refl _) _
  have B1 := Blk.new' (w.alloc (.cells #[.pointer (some ⟨g, 0, none⟩)] 23)) 4 [.bool false]
  rw [z0] at B1
  have B0' := B0.laterB b1
  have bb := below_then b0 b1
  have z1 : ((w.alloc (.cells #[.pointer (some ⟨g, 0, none⟩)] 23)).alloc (.cells #[.bool false] 4)).heap.size = w.heap.size + 2 := by simp
  have h2 := h.later bb
  obtain ⟨hnd, fv, vs, hq, hD⟩ := h2.holds
  obtain ⟨-, -, -, -, -, -, c6, c7, c9⟩ := wo_cells hD
  have hgl : g < w.heap.size := h.lt g (.inl (by simp [wo]))
  have y0 := B0'.cell (by simp [maxLen]) 0 (by simp)
  have y1 := B1.cell (by simp [maxLen]) 0 (by simp)
  simp only [List.getElem?_cons_zero] at y0 y1
  cases hc : m.cl with
  | true =>
    have c6' : ((w.alloc (.cells #[.pointer (some ⟨g, 0, none⟩)] 23)).alloc (.cells #[.bool false] 4)).cell? ⟨g, 6, none⟩ = some (.int .u32 1) := by rw [c6, hc]; rfl
    have e : m.shut = m := by unfold Wm.shut; rw [← hc]
    rw [e]
    have HD : Hid _ := fun fv => do_closed ⟨g, 6, none⟩ fv _ c6'
    have HS : Hid _ := Step.quiet h bb
    clear h h2 hD hnd hq b0 B0 b1 B1 B0' bb z0 z1 c6 c7 c9 c6' e hc
    go_enter Try.func30, Try.ntmps30
    go_wp2_with (go_at_call 73; refine (Calls.mono (HD.out _)) ?_; rintro e w' ⟨rfl, rfl⟩)
    go_ret
    exact ⟨rfl, HS.out⟩
  | false =>
    have c6' : ((w.alloc (.cells #[.pointer (some ⟨g, 0, none⟩)] 23)).alloc (.cells #[.bool false] 4)).cell? ⟨g, 6, none⟩ = some (.int .u32 0) := by rw [c6, hc]; rfl
    have fz := fun i => hD.blk.frozen (by simp [maxLen]) i
    have hd := do_close g w.heap.size (w.heap.size + 1) _ _ (by omega) (by omega) (by omega) _ y0 y1 (blk_frozen B1 0) c6' c7 c9 (fz 6) (fz 7) (fz 9)
    have HD : Hid _ := hd
    have HS : Hid _ := shut_step h2 (w.heap.size + 1) (by omega) (fun k hk => by have := h.lt k hk; omega) (Step.quiet h bb) (by omega)
    have B1' : Blk (shutW ((w.alloc (.cells #[.pointer (some ⟨g, 0, none⟩)] 23)).alloc (.cells #[.bool false] 4)) g (w.heap.size + 1)) (w.heap.size + 1) 4 [.bool true] := by
      have hne : w.heap.size + 1 ≠ g := by omega
      unfold Blk shutW
      rw [Below.heap_setCell _ _ _ _ hne, Below.heap_setCell _ _ _ _ hne]
      have b1 : Blk (((w.alloc (.cells #[.pointer (some ⟨g, 0, none⟩)] 23)).alloc (.cells #[.bool false] 4)).setCell ⟨g, 7, none⟩ (.int .i32 1)) (w.heap.size + 1) 4 [.bool false] := by unfold Blk; rw [Below.heap_setCell _ _ _ _ hne]; exact B1
      have b2 : Blk ((((w.alloc (.cells #[.pointer (some ⟨g, 0, none⟩)] 23)).alloc (.cells #[.bool false] 4)).setCell ⟨g, 7, none⟩ (.int .i32 1)).setCell ⟨g, 9, none⟩ (.bool true)) (w.heap.size + 1) 4 [.bool false] := by unfold Blk; rw [Below.heap_setCell _ _ _ _ hne]; exact b1
      have b3 := b2.set 0 (.bool true)
      simp only [List.set_cons_zero] at b3
      exact b3
    have y3 := B1'.cell (by simp [maxLen]) 0 (by simp)
    simp only [List.getElem?_cons_zero] at y3
    clear h h2 hD hnd hq b0 B0 b1 B1 B0' bb z0 z1 c6 c7 c9 c6' fz hd B1' hc
    go_enter Try.func30, Try.ntmps30
    go_wp2_with fail
    refine (Calls.mono HD.out) ?_
    rintro e w' ⟨rfl, hw'⟩
    rw [← hw'] at y3 HS
    clear hw' HD
    go_wp2
    go_ret
    exact ⟨rfl, HS.out⟩
end Go.Proofs.Ytjfodmdijajfbaa
