/- Walks of the disk's inner functions. -/
import Derived.Test.YtmhnlfgakpelkaaSep
import Derived.Laws.CopyOwn
import Derived.Deep.RegionHeldLaw
namespace Go.Proofs.Ytmhnlfgakpelkaa
open Go.RowKit

theorem ret_val {a b : Value} (h : a = b) : Ending.returned a = .returned b := by rw [h]
/-- how many sectors so many bytes take -/
def secs (n : Nat) : Nat := (n + 255) / 256

set_option maxHeartbeats 400000 in
theorem sectorsOf_any (n : Nat) (w : World) (hn : n ≤ 140737488355328) :
    Calls Try.prog 31 #[.int .i64 n] w fun e w' => e = .returned (.int .i64 (secs n : Nat)) ∧ w = w' := by
  have H : Hid (((n : Int) + 256 - 1) / 256 = ((secs n : Nat) : Int)) := by unfold secs; show _ = _; omega
  go_enter Try.func31, Try.ntmps31
  go_wp2
  go_ret
  exact ⟨ret_int H.out, rfl⟩

set_option maxHeartbeats 400000 in
theorem span_any (g n cap at' k : Nat) (w : World) (hk : 1 ≤ k) (hc : (at' + k) * 256 ≤ cap) (hm : (at' + k) * 256 ≤ 140737488355328) :
    Calls Try.prog 43 #[.slice (some ⟨g, 0, none⟩) n cap, .int .i64 at', .int .i64 k] w fun e w' => e = .returned (.slice (some ⟨g, at' * 256, none⟩) (k * 256) (k * 256)) ∧ w = w' := by
  have q1 : ((at' : Int) + k) * 256 ≤ (cap : Int) := by omega
  have q0 : ((at' : Int) + k) * 256 ≤ 140737488355328 := by omega
  have q2 : (at' : Int) * 256 ≤ ((at' : Int) + k) * 256 := by omega
  have q3 : (0 : Int) ≤ (at' : Int) * 256 := by omega
  go_enter Try.func43, Try.ntmps43
  go_wp2
  go_ret
  exact ⟨ret_val (by show Value.slice _ ((at' + k) * 256 - at' * 256) ((at' + k) * 256 - at' * 256) = _; rw [show (at' + k) * 256 - at' * 256 = k * 256 by omega]), rfl⟩

theorem zeros_u8 (n : Nat) : (Builtin.zeroCells #[.int .u8 0] n).toList = List.replicate n (.int .u8 0) := by
  apply List.ext_getElem
  · simp [Builtin.zeroCells]
  · intro i h1 h2
    simp [Builtin.zeroCells, Nat.mod_one]

/-- clear of bytes that lie in a row that is known whole -/
theorem run_clear_bytes (w : World) (ty : TypeId) (ap : Option Addr) (n c g off : Nat) (cur : List Value) (t : TypeId) (hg : Blk w g t cur) (hpos : 0 < n → ap = some ⟨g, off, none⟩) (hfit : off + n ≤ cur.length) :
    ∃ w', (Builtin.clear_ #[22] ty #[.slice ap n c]).run Try.prog w = .ok (.tuple #[]) w' ∧ Blk w' g t (splice cur off (List.replicate n (.int .u8 0))) ∧ w.grownBy w' (some g) := by
  obtain ⟨i0, hi, hz0, hz1, hz2⟩ := info_parts info_u8
  by_cases h0 : n = 0
  · subst h0
    refine ⟨w, ?_, by simpa [splice] using hg, ⟨rfl, rfl, rfl, Nat.le_refl _, fun _ _ _ => rfl⟩⟩
    cases ap <;> simp [Builtin.clear_, run_underlying Try.underlying22]
  · have hp := hpos (by omega)
    subst hp
    have hst := run_storeCells_at Try.prog g off t (List.replicate n (.int .u8 0)) 0 cur.toArray w hg (by simpa using hfit) (fun v hv => by rw [List.eq_of_mem_replicate hv]; rfl)
    refine ⟨w.setRow g (splice cur off (List.replicate n (.int .u8 0))).toArray, ?_, setRow_heap w g _ _ t _ hg, ⟨rfl, rfl, rfl, by simp [World.setRow], fun k hk hr => setRow_other w g k _ (by intro e; subst e; exact hr rfl)⟩⟩
    have hz : (zeroValue 5).run Try.prog w = .ok (.int .u8 0) w := by simp [zeroValue, typeInfo, hi, hz0]
    cases n with
    | zero => exact absurd rfl h0
    | succ n =>
      simp only [Builtin.clear_, run_underlying Try.underlying22, Sem.run_bind, Result.andThen_ok, hz, List.getElem?_toArray, List.getElem?_cons_zero]
      simp only [Value.cells, zeros_u8, hst, Result.andThen_ok, Sem.run_pure, Nat.add_zero]
      simp [splice]

theorem vals_splice (l : List (BitVec 8)) (off : Nat) (b : List (BitVec 8)) : vals (splice l off b) = splice (vals l) off (vals b) := by
  unfold splice vals; simp
theorem vals_zeros (n : Nat) : vals (List.replicate n 0#8) = List.replicate n (.int .u8 0) := by unfold vals; simp

/-- copy of bytes into a row that is known whole -/
theorem run_copy_bytes (w : World) (ty : TypeId) (dp sp : Option Addr) (dLen dCap sLen sCap g off : Nat) (cur : List Value) (t : TypeId) (hg : Blk w g t cur) (lb : List (BitVec 8)) (hn : lb.length = Nat.min sLen dLen) (hpos : 0 < lb.length → dp = some ⟨g, off, none⟩) (hr : Row w sp lb) (hfit : off + lb.length ≤ cur.length) :
    ∃ w', (Builtin.copy_ #[22, 22] ty #[.slice dp dLen dCap, .slice sp sLen sCap]).run Try.prog w = .ok (.int .i64 lb.length) w' ∧ Blk w' g t (splice cur off (vals lb)) ∧ w.grownBy w' (some g) := by
  have hsz : (Try.prog.info? 5).map (·.size) = some 1 := by
    obtain ⟨i0, hi, hz0, hz1, hz2⟩ := info_parts info_u8
    rw [hi]; simp [hz1]
  by_cases h0 : lb.length = 0
  · obtain rfl : lb = [] := List.eq_nil_of_length_eq_zero h0
    exact ⟨w, run_copy_none (P := Try.prog) w 22 22 ty 5 dp sp dLen dCap sLen sCap Try.underlying22 hsz (by simpa using hn.symm), by simpa [splice, vals] using hg, ⟨rfl, rfl, rfl, Nat.le_refl _, fun _ _ _ => rfl⟩⟩
  · have hp := hpos (by omega)
    subst hp
    rcases hr with rfl | ⟨b, bo, rfl, hc⟩
    · simp at h0
    have hrun := run_copy_row (P := Try.prog) w 22 22 ty 5 g off dLen dCap ⟨b, bo, none⟩ sLen sCap cur.toArray t (vals lb) Try.underlying22 hsz hg (by rw [vals_length]; exact hn) (fun j v hj => by
      have hjl : j < lb.length := by
        rcases Nat.lt_or_ge j lb.length with h | h
        · exact h
        · rw [List.getElem?_eq_none (by rw [vals_length]; exact h)] at hj; cases hj
      have e : (⟨b, bo, none⟩ : Addr).add j = ⟨b, bo + j, none⟩ := by unfold Addr.add; split <;> simp_all
      rw [e, hc j hjl, ← vals_at lb j hjl, hj]) (by rw [vals_length]; simpa using hfit) (vals_one lb)
    refine ⟨w.setRow g (splice cur off (vals lb)).toArray, ?_, setRow_heap w g _ _ t _ hg, ⟨rfl, rfl, rfl, by simp [World.setRow], fun k hk hr => setRow_other w g k _ (by intro e; subst e; exact hr rfl)⟩⟩
    rw [hrun]
    simp [splice, goInt, vals_length]

theorem splice_length {α : Type} (L : List α) (off : Nat) (cs : List α) (h : off + cs.length ≤ L.length) : (splice L off cs).length = L.length := length_splice L off cs h
theorem splice_two {α : Type} (L : List α) (off : Nat) (a b : List α) (h : off + a.length + b.length ≤ L.length) : splice (splice L off a) (off + a.length) b = splice L off (a ++ b) := by
  unfold splice
  have e1 : (L.take off ++ (a ++ L.drop (off + a.length))).take (off + a.length) = L.take off ++ a := by
    rw [← List.append_assoc, List.take_append_of_le_length (by simp; omega)]
    exact List.take_of_length_le (by simp; omega)
  have e2 : (L.take off ++ (a ++ L.drop (off + a.length))).drop (off + a.length + b.length) = L.drop (off + a.length + b.length) := by
    rw [← List.append_assoc, List.drop_append]
    simp only [List.length_append, List.length_take]
    rw [List.drop_eq_nil_of_le (by simp; omega), List.nil_append, List.drop_drop]
    congr 1; omega
  rw [e1, e2]
  simp [Nat.add_assoc]

set_option maxHeartbeats 400000 in
theorem lay_any (g off len cap : Nat) (cur : List Value) (t : TypeId) (ab : Option Addr) (blen bcap : Nat) (lb : List (BitVec 8)) (w : World) (hB : Blk w g t cur) (hfit : off + len ≤ cur.length) (hlc : len ≤ cap) (_hm : cap ≤ 140737488355328)
    (hl : lb.length = blen) (hbl : blen ≤ len) (hr : Row w ab lb) :
    Calls Try.prog 47 #[.slice (some ⟨g, off, none⟩) len cap, .slice ab blen bcap] w fun e w' => e = .returned (.tuple #[]) ∧ Blk w' g t (splice cur off (vals (lb ++ List.replicate (len - blen) 0#8))) ∧ w.grownBy w' (some g) := by
  have hx : splice (splice cur off (vals lb)) (off + blen) (List.replicate (len - blen) (.int .u8 0)) = splice cur off (vals (lb ++ List.replicate (len - blen) 0#8)) := by
    have := splice_two cur off (vals lb) (List.replicate (len - blen) (.int .u8 0)) (by rw [vals_length]; simp; omega)
    rw [vals_length, hl] at this
    rw [this, vals_append, vals_zeros]
  have HX : Hid _ := hx
  have q1 : (blen : Int) ≤ (len : Int) := by omega
  have q2 : (len : Int) ≤ (cap : Int) := by omega
  have q3 : (0 : Int) ≤ (blen : Int) := by omega
  have L1 : (splice cur off (vals lb)).length = cur.length := splice_length _ _ _ (by rw [vals_length]; omega)
  obtain ⟨w1, r1, B1, G1⟩ := run_copy_bytes w 3 (some ⟨g, off, none⟩) ab len cap blen bcap g off cur t hB lb (by rw [hl]; exact (Nat.min_eq_left hbl).symm) (fun _ => rfl) hr (by omega)
  rw [hl] at r1
  clear hx hr hB
  by_cases hcb : cap = blen
  · subst hcb
    obtain ⟨w2, r2, B2, G2⟩ := run_clear_bytes w1 0 (some ⟨g, off, none⟩) (len - cap) 0 g (off + cap) _ t B1 (fun h => by omega) (by rw [L1]; omega)
    rw [HX.out] at B2
    have F : Hid _ := And.intro B2 (grown_trans G1 G2)
    rw [show len - cap = 0 by omega] at r2
    clear B1 B2 G1 G2 HX L1
    go_enter Try.func47, Try.ntmps47
    go_wp2
    go_end0
    exact ⟨rfl, F.out.1, F.out.2⟩
  · obtain ⟨w2, r2, B2, G2⟩ := run_clear_bytes w1 0 (some ⟨g, off + blen, none⟩) (len - blen) (cap - blen) g (off + blen) _ t B1 (fun h => rfl) (by rw [L1]; omega)
    rw [HX.out] at B2
    have F : Hid _ := And.intro B2 (grown_trans G1 G2)
    clear B1 B2 G1 G2 HX L1
    go_enter Try.func47, Try.ntmps47
    go_wp2
    go_end0
    exact ⟨rfl, F.out.1, F.out.2⟩

/-- bytes with 0 behind them in the last sector -/
def pad (b : List (BitVec 8)) : List (BitVec 8) := b ++ List.replicate (secs b.length * 256 - b.length) 0#8
theorem secs_le (n : Nat) : n ≤ secs n * 256 := by unfold secs; omega
theorem secs_pos (n : Nat) (h : 1 ≤ n) : 1 ≤ secs n := by unfold secs; omega
theorem pad_length (b : List (BitVec 8)) : (pad b).length = secs b.length * 256 := by unfold pad; have := secs_le b.length; simp; omega

theorem box_cells (w : World) (x y : Value) (T : TypeId) : (w.alloc (.cells #[x, y] T)).cell? ⟨w.heap.size, 0, none⟩ = some x ∧ (w.alloc (.cells #[x, y] T)).cell? ⟨w.heap.size, 1, none⟩ = some y := by
  have h : Blk (w.alloc (.cells #[x, y] T)) w.heap.size T [x, y] := Blk.new' w T [x, y]
  exact ⟨h.cell (by simp [maxLen]) 0 (by simp), h.cell (by simp [maxLen]) 1 (by simp)⟩

set_option maxHeartbeats 400000 in
theorem gsectors_any (at' : Int) (ab : Option Addr) (blen bcap : Nat) (w : World) (hm : blen ≤ 140737488355328) :
    Calls Try.prog 44 #[.agg #[.int .i64 at', .slice ab blen bcap]] w fun e w' => e = .returned (.int .i64 (secs blen : Nat)) ∧ w.alloc (.cells #[.int .i64 at', .slice ab blen bcap] 68) = w' := by
  go_enter Try.func44, Try.ntmps44
  go_wp2_with (go_at_call 31; refine (sectorsOf_any blen _ hm).mono ?_; rintro e w' ⟨rfl, rfl⟩)
  go_ret
  exact ⟨rfl, rfl⟩

theorem Blk.laterB {w w' : World} {g : Nat} {t : TypeId} {xs : List Value} (h : Blk w g t xs) (hb : Below w.heap.size w w') : Blk w' g t xs := by
  have hl := h.lt
  unfold Blk at *; rw [hb.block g hl]; exact h
theorem cell_keep {w w' : World} {x : Addr} {v : Value} {row : Option Nat} (h : w.cell? x = some v) (hg : w.grownBy w' row) (hr : some x.block ≠ row) : w'.cell? x = some v := by
  have hx : x.block < w.heap.size := by
    rcases Nat.lt_or_ge x.block w.heap.size with h1 | h1
    · exact h1
    · unfold World.cell? at h
      rw [Array.getElem?_eq_none h1] at h
      simp at h
  rw [World.cell?_of_block (w := w) (hg.block _ hx hr)]
  exact h

set_option maxHeartbeats 1000000 in
theorem layOver_any (at' : Nat) (ab : Option Addr) (blen bcap : Nat) (lb : List (BitVec 8)) (g n cap : Nat) (cur : List Value) (t : TypeId) (w : World) (hB : Blk w g t cur) (hcur : cap ≤ cur.length) (hm : (at' + secs blen) * 256 ≤ 140737488355328)
    (hl : lb.length = blen) (h1 : 1 ≤ blen) (hfit : (at' + secs blen) * 256 ≤ cap) (hr : Row w ab lb) :
    Calls Try.prog 41 #[.agg #[.int .i64 at', .slice ab blen bcap], .slice (some ⟨g, 0, none⟩) n cap] w fun e w' => e = .returned (.tuple #[]) ∧ Blk w' g t (splice cur (at' * 256) (vals (pad lb))) ∧ w.grownBy w' (some g) := by
  have hs1 := secs_pos blen h1
  have hsl := secs_le blen
  have hgl := hB.lt
  have f0 : at' * 256 + secs blen * 256 ≤ cap := by rw [← Nat.add_mul]; exact hfit
  have f1 : at' * 256 + secs blen * 256 ≤ cur.length := Nat.le_trans f0 hcur
  have f2 : secs blen * 256 ≤ 140737488355328 := Nat.le_trans (by rw [Nat.add_mul]; exact Nat.le_add_left _ _) hm
  have f3 : blen ≤ 140737488355328 := by omega
  have f4 : some w.heap.size ≠ some g := by simp; omega
  have hp : Hid (lb ++ List.replicate (secs blen * 256 - blen) 0#8 = pad lb) := by show _ = _; unfold pad; rw [hl]
  have S0 := box_cells w (.int .i64 at') (.slice ab blen bcap) 68
  have b0 : Below w.heap.size w (w.alloc (.cells #[.int .i64 at', .slice ab blen bcap] 68)) := (Below.refl _ _).alloc (Nat.le_refl _) _
  have g0 : w.grownBy (w.alloc (.cells #[.int .i64 at', .slice ab blen bcap] 68)) (some g) := World.grownBy_alloc _ _ _
  have hz0 : w.heap.size < (w.alloc (.cells #[.int .i64 at', .slice ab blen bcap] 68)).heap.size := by simp
  go_enter Try.func41, Try.ntmps41
  go_wp2_with fail
  generalize w.alloc (.cells #[.int .i64 at', .slice ab blen bcap] 68) = w0 at *
  generalize hgo : w.heap.size = go at *
  have hBd : Blk w0.drew g t cur := by
    unfold Blk at *; rw [show w0.drew.heap = w0.heap from rfl, b0.block g hgl]; exact hB
  have hrd : Row w0.drew ab lb := by have := hr.later (hgo ▸ b0); exact this.later (Below.refl _ _).drew
  have gd : w.grownBy w0.drew (some g) := ⟨g0.os, g0.tape, g0.output, g0.size, g0.block⟩
  have Sd : w0.drew.cell? ⟨go, 0, none⟩ = some (.int .i64 at') ∧ w0.drew.cell? ⟨go, 1, none⟩ = some (.slice ab blen bcap) := S0
  have K : Hid _ := And.intro hBd (And.intro hrd gd)
  clear hB hr g0 b0 S0 hBd hrd gd
  go_region_held_law (fun W => W.cell? ⟨go, 0, none⟩ = some (.int .i64 at') ∧ W.cell? ⟨go, 1, none⟩ = some (.slice ab blen bcap)) (first | exact Sd | assumption)
    (first
      | (go_at_call 44; refine (gsectors_any at' ab blen bcap _ f3).mono ?_; rintro e w1 ⟨rfl, hw1⟩; have b1 : Below w0.drew.heap.size w0.drew w1 := hw1 ▸ (Below.refl _ _).alloc (Nat.le_refl _) _; have S1 : w1.cell? ⟨go, 0, none⟩ = some (.int .i64 at') ∧ w1.cell? ⟨go, 1, none⟩ = some (.slice ab blen bcap) := ⟨cell_later b1 Sd.1, cell_later b1 Sd.2⟩)
      | (go_at_call 43; refine (span_any g n cap at' (secs blen) _ hs1 hfit hm).mono ?_; rintro e w2 ⟨rfl, hw2⟩; obtain rfl := hw2.symm)
      | (go_at_call 47; refine (lay_any g (at' * 256) (secs blen * 256) (secs blen * 256) cur t ab blen bcap lb _ (K.out.1.laterB b1) f1 (Nat.le_refl _) f2 hl hsl (K.out.2.1.later b1)).mono ?_; rintro e w3 ⟨rfl, hB3, hg3⟩; have S3 : w3.cell? ⟨go, 0, none⟩ = some (.int .i64 at') ∧ w3.cell? ⟨go, 1, none⟩ = some (.slice ab blen bcap) := ⟨cell_keep S1.1 hg3 f4, cell_keep S1.2 hg3 f4⟩))
  have F : Hid _ := And.intro hB3 (grown_trans (grown_trans K.out.2.2 ⟨b1.os, b1.tape, b1.output, b1.size, fun k hk _ => b1.block k hk⟩) hg3)
  rw [hp.out] at F
  clear hB3 hg3 S3 S1 b1 hw1 Sd K hp
  go_end0
  exact ⟨rfl, F.out.1, F.out.2⟩
end Go.Proofs.Ytmhnlfgakpelkaa
