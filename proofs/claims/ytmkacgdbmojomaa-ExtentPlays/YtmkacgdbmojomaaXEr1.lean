/- extent, the document's: an image in memory. -/
import Derived.Test.YtmkacgdbmojomaaXEx2
namespace Go.Proofs.Ytmkacgdbmojomaa
open Go.RowKit
set_option linter.unusedVariables false
set_option linter.unusedSimpArgs false
set_option maxRecDepth 4000

def ownL (v : Value) : List Nat := match v.ownBlock with
  | some k => [k]
  | none => []
theorem mem_ownL {v : Value} {k : Nat} (h : k ∈ ownL v) : v.ownBlock = some k := by
  unfold ownL at h
  split at h
  · rename_i e; rw [e, List.mem_singleton.1 h]
  · cases h
/-- the bytes of a block: none, where it is not there -/
def Im.by (m : Im) (i : Nat) : List (BitVec 8) := (m.f i).getD []
/-- the document's image at block r, its blocks' slices at block lb; V: where their bytes lie -/
def ri (r lb : Nat) (V : List Nat) (m : Im) : Ob :=
  ⟨[lb], r :: V, fun w => lb ∉ (r :: V) ∧ (∀ k ∈ V, k < w.heap.size) ∧ Blk w r 64 [.slice (some ⟨lb, 0, none⟩) m.n m.n] ∧
    ∃ vs : List Value, vs.length = m.n ∧ Blk w lb 31 vs ∧ ∀ i, i < m.n → ∃ a cap, vs[i]? = some (.slice a (m.by i).length cap) ∧ (m.by i).length ≤ cap ∧ (a = none → cap = 0) ∧ Row w a (m.by i) ∧ ∀ ad, a = some ad → ad.block ∈ V⟩
theorem row_same {w1 w2 : World} {a : Option Addr} {l : List (BitVec 8)} (h : Row w1 a l) (hb : ∀ ad, a = some ad → w2.heap[ad.block]? = w1.heap[ad.block]?) : Row w2 a l := by
  rcases h with h | ⟨b, off, rfl, hc⟩
  · exact .inl h
  · refine .inr ⟨b, off, rfl, fun i hi => ?_⟩
    rw [← hc i hi]
    unfold World.cell?
    rw [hb _ rfl]
theorem lt_some {w : World} {k : Nat} {o : Obj} (h : w.heap[k]? = some o) : k < w.heap.size := by
  rcases Nat.lt_or_ge k w.heap.size with h1 | h1
  · exact h1
  · rw [Array.getElem?_eq_none h1] at h; cases h
theorem ri_stable (r lb : Nat) (V : List Nat) (m : Im) (w1 w2 : World) (hb : ∀ k, k ∈ (ri r lb V m).W ∨ k ∈ (ri r lb V m).V → w2.heap[k]? = w1.heap[k]?) (h : (ri r lb V m).P w1) : (ri r lb V m).P w2 := by
  obtain ⟨h0, hv, h1, vs, h2, h3, h4⟩ := h
  have hk : ∀ k ∈ V, w2.heap[k]? = w1.heap[k]? := fun k hk => hb k (.inr (List.mem_cons_of_mem _ hk))
  refine ⟨h0, fun k hkV => ?_, ?_, vs, h2, ?_, fun i hi => ?_⟩
  · have h5 := hv k hkV
    have e := hk k hkV
    rw [Array.getElem?_eq_getElem h5] at e
    exact lt_some e
  · unfold Blk at *; rw [hb r (.inr (by simp [ri]))]; exact h1
  · unfold Blk at *; rw [hb lb (.inl (by simp [ri]))]; exact h3
  · obtain ⟨a, cap, e, hl, hn, hr, hx⟩ := h4 i hi
    exact ⟨a, cap, e, hl, hn, row_same hr (fun ad ha => hk _ (hx ad ha)), hx⟩
theorem ri_ok {r lb : Nat} {V : List Nat} {m : Im} {w : World} (h : (ri r lb V m).P w) : (ri r lb V m).Ok w := by
  refine ⟨h, fun k hk => ?_, fun k hk => ?_, ri_stable r lb V m⟩
  · obtain ⟨h0, hv, h1, vs, h2, h3, h4⟩ := h
    rcases hk with hk | hk
    · have : k = lb := by simpa [ri] using hk
      subst this; exact h3.lt
    · rcases List.mem_cons.1 hk with e | e
      · subst e; exact h1.lt
      · exact hv k e
  · have : k = lb := by simpa [ri] using hk
    subst this; exact h.1
theorem putI_by (m : Im) (i j : Nat) (l : List (BitVec 8)) : (putI m i (if l = [] then none else some l)).by j = if j = i then l else m.by j := by
  unfold Im.by putI
  simp only
  by_cases e : j = i
  · rw [if_pos e, if_pos e]
    by_cases h : l = []
    · rw [if_pos h, h]; rfl
    · rw [if_neg h]; rfl
  · rw [if_neg e, if_neg e]
/-- bytes of its own are laid at a place -/
theorem ri_put {r lb : Nat} {V : List Nat} {m : Im} {w0 w : World} (h : (ri r lb V m).Ok w0) (hb : Below w0.heap.size w0 w) {v : Value} {l : List (BitVec 8)} (O : Own w w0.heap.size v l) {i : Nat} (hi : i < m.n) :
    Step w0 (w.setCell ⟨lb, i, none⟩ v) (ri r lb V m) (ri r lb (ownL v ++ V) (putI m i (if l = [] then none else some l))) := by
  obtain ⟨h0, hv, h1, vs, h2, h3, h4⟩ := h.holds
  have hge : ∀ k, v.ownBlock = some k → w0.heap.size ≤ k ∧ k < w.heap.size := fun k hk => World.ownsRow.lt O k hk
  have hlb := h3.lt
  have hg := grown_set w lb i v
  have hsame : ∀ k, k < w.heap.size → k ≠ lb → (w.setCell ⟨lb, i, none⟩ v).heap[k]? = w.heap[k]? := fun k hk hne => hg.block k hk (fun e => hne (by injection e))
  have hold : ∀ k, k < w0.heap.size → k ≠ lb → (w.setCell ⟨lb, i, none⟩ v).heap[k]? = w0.heap[k]? := fun k hk hne => (hsame k (Nat.lt_of_lt_of_le hk hb.size) hne).trans (hb.block k hk)
  have hVlb : ∀ k ∈ V, k ≠ lb := fun k hk e => h0 (by rw [← e]; exact List.mem_cons_of_mem _ hk)
  have hrlb : r ≠ lb := fun e => h0 (by rw [e]; exact List.mem_cons_self)
  have hsz : w.heap.size ≤ (w.setCell ⟨lb, i, none⟩ v).heap.size := hg.size
  have hP : (ri r lb (ownL v ++ V) (putI m i (if l = [] then none else some l))).P (w.setCell ⟨lb, i, none⟩ v) := by
    refine ⟨fun e => ?_, fun k hk => ?_, ?_, vs.set i v, ?_, (h3.laterB hb).set i v, fun j hj => ?_⟩
    · rcases List.mem_cons.1 e with e | e
      · exact hrlb e.symm
      · rcases List.mem_append.1 e with e | e
        · have := (hge _ (mem_ownL e)).1; omega
        · exact hVlb _ e rfl
    · rcases List.mem_append.1 hk with e | e
      · have := (hge _ (mem_ownL e)).2; omega
      · have := hv k e; have := hb.size; omega
    · have := (h1.laterB hb).grown hg (fun e => hrlb (Option.some.inj e)); exact this
    · rw [List.length_set]; exact h2
    · rw [putI_by]
      by_cases e : j = i
      · subst e
        rw [if_pos rfl]
        obtain ⟨a, cap, rfl, hle, -, hr, hn, hx⟩ := O.open
        refine ⟨a, cap, ?_, hle, hn, row_same hr (fun ad ha => ?_), fun ad ha => ?_⟩
        · rw [List.getElem?_set_self (by rw [h2]; exact hj)]
        · obtain ⟨g, e2, hg2⟩ := hx ad ha
          subst ha e2
          exact hsame g (hge g (by simp [Value.ownBlock])).2 (by omega)
        · obtain ⟨g, e2, hg2⟩ := hx ad ha
          subst ha e2
          exact List.mem_append_left _ (by simp [ownL, Value.ownBlock])
      · rw [if_neg e]
        obtain ⟨a, cap, e2, hl, hn, hr, hx⟩ := h4 j hj
        refine ⟨a, cap, by rw [List.getElem?_set_ne (fun e3 => e e3.symm)]; exact e2, hl, hn, row_same hr (fun ad ha => hold _ (hv _ (hx ad ha)) (hVlb _ (hx ad ha))), fun ad ha => List.mem_append_right _ (hx ad ha)⟩
  refine ⟨⟨?_, ?_, ?_, Nat.le_trans hb.size hsz, fun k hk hn => hold k hk (fun e => hn (by rw [e]; simp [ri]))⟩, ri_ok hP, fun k hk => .inl hk, fun k hk => ?_⟩
  · exact hg.os.trans hb.os
  · exact hg.tape.trans hb.tape
  · exact hg.output.trans hb.output
  · rcases List.mem_cons.1 hk with e | e
    · exact .inr (.inl (by rw [e]; exact List.mem_cons_self))
    · rcases List.mem_append.1 e with e | e
      · exact .inr (.inr (hge _ (mem_ownL e)).1)
      · exact .inr (.inl (List.mem_cons_of_mem _ e))
end Go.Proofs.Ytmkacgdbmojomaa

/- extent, the document's: New, in, Unmap, Write. -/
namespace Go.Proofs.Ytmkacgdbmojomaa
open Go.RowKit
set_option linter.unusedVariables false
set_option linter.unusedSimpArgs false
set_option maxRecDepth 8000

theorem er_at {w : World} {g : Nat} {t : TypeId} {xs : List Value} (h : Blk w g t xs) (i : Nat) : w.cell? ⟨g, i, none⟩ = xs[i]? := by
  unfold Blk at h; simp [World.cell?, h]
theorem er_fz {w : World} {g : Nat} {t : TypeId} {xs : List Value} (h : Blk w g t xs) (i : Nat) : w.frozen? ⟨g, i, none⟩ = false := by
  unfold Blk at h; simp [World.frozen?, h]
theorem info_bs : (Try.prog.info? 31).map (fun i => (i.zero, i.size, i.bytes)) = some (some (.slice none 0 0), 1, 24) := by kernel_rfl
theorem mk_bs (N : Nat) (hN : N ≤ 1000) (u : World) : (Instr.makeSlice 62 (.int .i64 (N : Int)) (.int .i64 (N : Int))).run Try.prog u = .ok (.slice (some ⟨u.heap.size, 0, none⟩) N N) (u.alloc (.cells (List.replicate N (Value.slice none 0 0)).toArray 31)) := by
  obtain ⟨i0, hi, hz0, hz1, hz2⟩ := info_parts info_bs
  have h := run_make (P := Try.prog) u 62 31 i0 (.slice none 0 0) Try.underlying62 hi hz0 .i64 .i64 N N (by omega) (by omega) (by rw [hz2]; omega) (by omega)
  rw [hz1] at h
  have e : (madeCells #[Value.slice none 0 0] N) = (List.replicate N (Value.slice none 0 0)).toArray := by
    apply Array.ext
    · simp [madeCells]
    · intro i h1 h2; simp [madeCells, Nat.mod_one]
  rw [← e]
  simpa [Value.cells] using h
def im0 (n : Nat) : Im := ⟨n, fun _ => none⟩
theorem sz_u8_5 (w : World) : (sizeOf (Try.prog.elem 31)).run Try.prog w = .ok 1 w := by
  have e : Try.prog.elem 31 = 5 := by kernel_rfl
  obtain ⟨i0, hi, -, hz1, -⟩ := info_parts info_u8
  rw [e]
  simp [sizeOf, typeInfo, hi, hz1]
theorem elem_u8s5 : Try.prog.underlying 31 = some (.slice (Try.prog.elem 31)) := by kernel_rfl
/-- x[i:j] of bytes -/
theorem slice_both5 {w : World} {a : Option Addr} {n c : Nat} {l : List (BitVec 8)} (hr : Row w a l) (hl : l.length = n) (hc : n ≤ c) (i j : Nat) (hi : i ≤ j) (hj : j ≤ n) :
    ∃ y, (Row w y ((l.drop i).take (j - i))) ∧ (∀ W : World, (Instr.sliceAt 31 (.slice a n c) (some (.int .i64 (i : Int))) (some (.int .i64 (j : Int))) none).run Try.prog W = .ok (.slice y (j - i) (c - i)) W) := by
  have hrun : ∀ W : World, (Instr.sliceAt 31 (.slice a n c) (some (.int .i64 (i : Int))) (some (.int .i64 (j : Int))) none).run Try.prog W = .ok (sliced a i j c 1) W := fun W => by
    rw [run_sliceAt_slice W _ _ _ _ _ elem_u8s5, run_slice_lh W _ _ _ _ elem_u8s5 .i64 .i64 (i : Int) (j : Int) (by omega) (by omega) (by omega), sz_u8_5]
    rfl
  unfold sliced at hrun
  refine ⟨_, ?_, hrun⟩
  split
  · exact .inl (by rw [List.drop_eq_nil_of_le (by omega)]; simp)
  · rcases hr with rfl | ⟨b, off, rfl, hcl⟩
    · exact .inl (by simp)
    · have e : (⟨b, off, none⟩ : Addr).add i = ⟨b, off + i, none⟩ := by unfold Addr.add; split <;> simp_all
      refine .inr ⟨b, off + i, by simp [e], fun k hk => ?_⟩
      rw [List.length_take, List.length_drop] at hk
      rw [Nat.add_assoc, hcl (i + k) (by omega)]
      unfold bt
      simp [List.getD, List.getElem?_take, show k < j - i by omega]
theorem exec_slice5 {P : Program} {w : World} {a : Act} {o : Oper} {t : TypeId} {x : Operand} {lo hi : Option Operand} (ho : o.op = .slice t x lo hi none) {p u : Value} (hx : a.eval x = p) (h : (Instr.sliceAt t p (lo.map a.eval) (hi.map a.eval) none).run P w = .ok u w) : (execOp a.eval o).run P w = .ok (.value u) w := by
  unfold execOp
  simp only [ho, hx]
  cases lo <;> cases hi <;> simp_all [go_sem]
/-- what New answers -/
def RiNew (n : Nat) (w : World) (e : Ending) (w' : World) : Prop := ∃ r lb, e = .returned (.tuple #[.pointer (some ⟨r, 0, none⟩), .int .i64 0]) ∧ (ri r lb [] (im0 n)).Ok w' ∧ Below w.heap.size w w' ∧ w.heap.size ≤ r ∧ w.heap.size ≤ lb
set_option maxHeartbeats 2000000 in
theorem riNew_yes (n : Nat) (w : World) (h : 1 ≤ n ∧ n ≤ 256) : Calls Try.prog 7 #[.int .i64 (n : Int)] w fun e w' => RiNew n w e w' := by
  have hmk := mk_bs n (by omega) w
  have N1 := Blk.new' w 31 (List.replicate n (Value.slice none 0 0))
  have bn1 : Below w.heap.size w (w.alloc (.cells (List.replicate n (Value.slice none 0 0)).toArray 31)) := (Below.refl _ _).alloc (Nat.le_refl _) _
  obtain ⟨w1, hw1⟩ : ∃ y, y = w.alloc (.cells (List.replicate n (Value.slice none 0 0)).toArray 31) := ⟨_, rfl⟩
  have z1 : w1.heap.size = w.heap.size + 1 := by rw [hw1]; simp
  rw [← hw1] at N1 bn1 hmk
  have N2 := Blk.new' w1 64 [.slice (some ⟨w.heap.size, 0, none⟩) n n]
  have bn2 : Below w1.heap.size w1 (w1.alloc (.cells #[.slice (some ⟨w.heap.size, 0, none⟩) n n] 64)) := (Below.refl _ _).alloc (Nat.le_refl _) _
  have hP : (ri w1.heap.size w.heap.size [] (im0 n)).P (w1.alloc (.cells #[.slice (some ⟨w.heap.size, 0, none⟩) n n] 64)) := ⟨by simp; omega, (fun k hk => by cases hk), N2, List.replicate n (Value.slice none 0 0), by simp [im0], N1.laterB bn2, fun i hi => ⟨none, 0, by simp [im0] at hi; simp [List.getElem?_replicate, hi, Im.by, im0], by simp [Im.by, im0], fun _ => rfl, .inl (by simp [Im.by, im0]), fun ad ha => by cases ha⟩⟩
  rw [z1] at hP
  have F : Hid _ := And.intro (ri_ok hP) (And.intro (below_then bn1 bn2) (And.intro (Nat.le_succ w.heap.size) (Nat.le_refl w.heap.size)))
  clear hP N1 N2 bn1 bn2
  have t1 : ¬ ((n : Int) < 1) := by omega
  have t2 : ¬ ((256 : Int) < (n : Int)) := by omega
  have HW : Hid (w.alloc (Obj.cells (Array.replicate n (Value.slice none 0 0)) 31) = w1) := (by rw [hw1]; simp : w.alloc (Obj.cells (Array.replicate n (Value.slice none 0 0)) 31) = w1)
  clear h z1
  go_enter Try.func7, Try.ntmps7
  go_wp2
  refine bodyPost_ret (v := .tuple #[.pointer (some ⟨w.heap.size + 1, 0, none⟩), .int .i64 0]) (by first | rfl | simp [results, Try.results7, go_sem]) rfl ?_
  rw [HW.out]
  exact ⟨w.heap.size + 1, w.heap.size, rfl, F.out.1, F.out.2.1, F.out.2.2.1, F.out.2.2.2⟩
set_option maxHeartbeats 2000000 in
theorem riIn_any (r lb : Nat) (V : List Nat) (m : Im) (a k : Int) (w : World) (h : (ri r lb V m).Ok w) (hw : m.Wf) (ha : I64 a) (hk : I64 k) : Calls Try.prog 74 #[.pointer (some ⟨r, 0, none⟩), .int .i64 a, .int .i64 k] w fun e w' => e = .returned (.bool (spansB m.n a k)) ∧ w = w' := by
  obtain ⟨-, -, h2, -⟩ := h.holds
  have c0 := er_at h2 0
  simp only [List.getElem?_cons_zero] at c0
  unfold I64 at ha hk
  have hm := hw.most
  clear h h2 hw
  by_cases q1 : 0 ≤ a
  · by_cases q2 : 0 ≤ k
    · by_cases q3 : a ≤ (m.n : Int)
      · have w1 : IntKind.i64.wrap ((m.n : Int) - a) = (m.n : Int) - a := by rw [IntKind.wrap_i64]; omega
        by_cases q4 : k ≤ (m.n : Int) - a
        · rw [show spansB m.n a k = true by unfold spansB; simp; omega]
          go_enter Try.func74, Try.ntmps74
          go_wp2
          go_ret
          exact ⟨rfl, rfl⟩
        · rw [show spansB m.n a k = false by unfold spansB; simp; omega]
          go_enter Try.func74, Try.ntmps74
          go_wp2
          go_ret
          exact ⟨rfl, rfl⟩
      · rw [show spansB m.n a k = false by unfold spansB; simp; omega]
        go_enter Try.func74, Try.ntmps74
        go_wp2
        go_ret
        exact ⟨rfl, rfl⟩
    · rw [show spansB m.n a k = false by unfold spansB; simp; omega]
      go_enter Try.func74, Try.ntmps74
      go_wp2
      go_ret
      exact ⟨rfl, rfl⟩
  · rw [show spansB m.n a k = false by unfold spansB; simp; omega]
    go_enter Try.func74, Try.ntmps74
    go_wp2
    go_ret
    exact ⟨rfl, rfl⟩
set_option maxHeartbeats 4000000 in
theorem riUnmap_no (r lb : Nat) (V : List Nat) (m : Im) (a k : Int) (w : World) (h : (ri r lb V m).Ok w) (hw : m.Wf) (ha : I64 a) (hk : I64 k) (hs : spansB m.n a k = false) : Calls Try.prog 42 #[.pointer (some ⟨r, 0, none⟩), .int .i64 a, .int .i64 k] w fun e w' => e = .returned (.int .i64 1) ∧ w = w' := by
  have HC0 := riIn_any r lb V m a k w h hw ha hk
  rw [hs] at HC0
  have HC : Hid _ := HC0
  clear HC0 h hw
  go_enter Try.func42, Try.ntmps42
  go_wp2_with fail
  refine (Calls.mono HC.out) ?_
  rintro e _ ⟨rfl, rfl⟩
  go_wp2
  go_ret
  exact ⟨rfl, rfl⟩
set_option maxHeartbeats 8000000 in
theorem riUnmap_yes (r lb : Nat) (V : List Nat) (m : Im) (a k : Nat) (w : World) (h : (ri r lb V m).Ok w) (hw : m.Wf) (hs : a + k ≤ m.n) : Calls Try.prog 42 #[.pointer (some ⟨r, 0, none⟩), .int .i64 (a : Int), .int .i64 (k : Int)] w fun e w' => e = .returned (.int .i64 0) ∧ Step w w' (ri r lb V m) (ri r lb V (unN m a k)) := by
  have hm := hw.most
  have HC0 := riIn_any r lb V m a k w h hw (by unfold I64; omega) (by unfold I64; omega)
  rw [spansB_nat hs] at HC0
  have HC : Hid _ := HC0
  have HH : Hid _ := h
  have w1 : IntKind.i64.wrap ((a : Int) + (k : Int)) = (a : Int) + (k : Int) := by rw [IntKind.wrap_i64]; omega
  clear HC0 h hw
  go_enter Try.func42, Try.ntmps42
  go_wp2_with fail
  refine (Calls.mono HC.out) ?_
  rintro e _ ⟨rfl, rfl⟩
  clear HC
  go_wp2_with fail
  go_loopw [7] (fun iv wr => ∃ i : Nat, iv = .int .i64 ((a : Int) + (i : Int)) ∧ i ≤ k ∧ Step w wr (ri r lb V m) (ri r lb V (unN m a i))) (fun iv _ => a + k - (intOf iv).toNat)
  case atStart => exact ⟨0, by first | rfl | simp, Nat.zero_le _, Step.refl HH.out⟩
  case round =>
    obtain ⟨i, rfl, hi, hst⟩ := hrel
    by_cases hlt : i < k
    · have q1 : (a : Int) + (i : Int) < (a : Int) + (k : Int) := by omega
      have w2 : IntKind.i64.wrap ((a : Int) + (i : Int) + 1) = (a : Int) + (i : Int) + 1 := by rw [IntKind.wrap_i64]; omega
      obtain ⟨-, -, h2, vs, hvl, h3, -⟩ := hst.ok.holds
      have hn : (unN m a i).n = m.n := unN_n m a i
      rw [hn] at h2 hvl
      have c0 := er_at h2 0
      simp only [List.getElem?_cons_zero] at c0
      have f3 := er_fz h3 (a + i)
      have c3 := er_at h3 (a + i)
      obtain ⟨u0, hu0⟩ : ∃ u0, vs[a + i]? = some u0 := ⟨_, List.getElem?_eq_getElem (by omega)⟩
      rw [hu0] at c3
      have hp := ri_put (w := wr) hst.ok (Below.refl _ _) (Own.nil wr wr.heap.size) (i := a + i) (by rw [hn]; omega)
      have hst2 := hst.trans hp
      have hP : Hid _ := And.intro hlt hst2
      have qq1 : (0 : Int) ≤ (a : Int) + (i : Int) := by omega
      have qq2 : (a : Int) + (i : Int) < (m.n : Int) := by omega
      have ea : ((a : Int) + (i : Int)).toNat = a + i := by omega
      clear hst hp hst2 h2 h3 hvl hu0 hn
      go_wp2
      go_roundw
      case rel => exact ⟨i + 1, by first | rfl | go_num, by omega, hP.out.2⟩
      case measure => have := hP.out.1; simp [intOf]; omega
    · obtain rfl : i = k := by omega
      have q1 : ¬ ((a : Int) + (i : Int) < (a : Int) + (i : Int)) := by omega
      have F : Hid _ := hst
      clear hst hi hlt
      go_wp2
      go_ret
      exact ⟨rfl, F.out⟩
set_option maxHeartbeats 4000000 in
theorem riWrite_no1 (r lb : Nat) (V : List Nat) (m : Im) (a : Int) (x : Option Addr) (len cap : Nat) (w : World) (h : (ri r lb V m).Ok w) (hw : m.Wf) (ha : I64 a) (hlen : len ≤ 140737488355328) (hs : len % 64 ≠ 0) : Calls Try.prog 41 #[.pointer (some ⟨r, 0, none⟩), .int .i64 a, .slice x len cap] w fun e w' => e = .returned (.int .i64 1) ∧ w = w' := by
  have q1 : (len : Int).tdiv 64 = ((len / 64 : Nat) : Int) := by rw [Int.tdiv_eq_ediv_of_nonneg (by omega)]; omega
  have q2 : (len : Int).tmod 64 = ((len % 64 : Nat) : Int) := by rw [Int.tmod_eq_emod_of_nonneg (by omega)]; omega
  have d : (((len : Int) % 64) != 0) = true := by simp; omega
  have d2 : ((((len % 64 : Nat)) : Int) != 0) = true := by simp; omega
  clear h hw
  go_enter Try.func41, Try.ntmps41
  go_wp2
  go_ret
  exact ⟨rfl, rfl⟩
set_option maxHeartbeats 4000000 in
theorem riWrite_no2 (r lb : Nat) (V : List Nat) (m : Im) (a : Int) (x : Option Addr) (len cap : Nat) (w : World) (h : (ri r lb V m).Ok w) (hw : m.Wf) (ha : I64 a) (hlen : len ≤ 140737488355328) (hs0 : len % 64 = 0) (hs : spansB m.n a (len / 64 : Nat) = false) : Calls Try.prog 41 #[.pointer (some ⟨r, 0, none⟩), .int .i64 a, .slice x len cap] w fun e w' => e = .returned (.int .i64 1) ∧ w = w' := by
  have q1 : (len : Int).tdiv 64 = ((len / 64 : Nat) : Int) := by rw [Int.tdiv_eq_ediv_of_nonneg (by omega)]; omega
  have q2 : (len : Int).tmod 64 = ((len % 64 : Nat) : Int) := by rw [Int.tmod_eq_emod_of_nonneg (by omega)]; omega
  obtain ⟨k, hk⟩ : ∃ k, k = len / 64 := ⟨_, rfl⟩
  rw [← hk] at hs q1
  have HC0 := riIn_any r lb V m a (k : Nat) w h hw ha (by unfold I64; omega)
  rw [hs] at HC0
  have HC : Hid _ := HC0
  have d : (((len : Int) % 64) != 0) = false := by simp; omega
  clear HC0 h hw hs
  have e1 : (len : Int) / 64 = (k : Int) := by omega
  clear hk hs0 q1 q2
  go_enter Try.func41, Try.ntmps41
  go_wp2_with fail
  (try rw [e1])
  refine (Calls.mono HC.out) ?_
  rintro e _ ⟨rfl, rfl⟩
  go_wp2
  go_ret
  exact ⟨rfl, rfl⟩
set_option maxHeartbeats 16000000 in
theorem riWrite_yes (r lb : Nat) (V : List Nat) (m : Im) (a k : Nat) (x : Option Addr) (len cap : Nat) (l : List (BitVec 8)) (w : World) (h : (ri r lb V m).Ok w) (hw : m.Wf) (hs : a + k ≤ m.n) (hlen : len = k * 64) (hl : l.length = len) (hcap : len ≤ cap) (hnil : x = none → cap = 0) (hr : Row w x l) (hv : l ≠ [] → ∀ y, x = some y → y.block ≠ lb) : Calls Try.prog 41 #[.pointer (some ⟨r, 0, none⟩), .int .i64 (a : Int), .slice x len cap] w fun e w' => e = .returned (.int .i64 0) ∧ ∃ V', Step w w' (ri r lb V m) (ri r lb V' (wrN m a l k)) := by
  have hm := hw.most
  have HC0 := riIn_any r lb V m a k w h hw (by unfold I64; omega) (by unfold I64; omega)
  rw [spansB_nat hs] at HC0
  have HC : Hid _ := HC0
  have HH : Hid _ := And.intro h (And.intro hr (And.intro hv (And.intro hlen (And.intro hl (And.intro hcap hnil)))))
  have e1 : (len : Int) / 64 = (k : Int) := by omega
  have d : (((len : Int) % 64) != 0) = false := by simp; omega
  have hk256 : k ≤ 256 := by omega
  clear HC0 h hw hr hv
  go_enter Try.func41, Try.ntmps41
  go_wp2_with fail
  refine (Calls.mono (by first | exact HC.out | (rw [e1]; exact HC.out))) ?_
  rintro e _ ⟨rfl, rfl⟩
  clear HC
  go_wp2_with fail
  go_loopw [8] (fun iv wr => ∃ (i : Nat) (V' : List Nat), iv = .int .i64 (i : Int) ∧ i ≤ k ∧ Step w wr (ri r lb V m) (ri r lb V' (wrN m a l i))) (fun iv _ => k - (intOf iv).toNat)
  case atStart => exact ⟨0, V, rfl, Nat.zero_le _, Step.refl HH.out.1⟩
  case round =>
    obtain ⟨i, V', rfl, hi, hst⟩ := hrel
    by_cases hlt : i < k
    · have q1 : (i : Int) < (k : Int) := by omega
      have w2 : IntKind.i64.wrap ((i : Int) * 64) = (i : Int) * 64 := by rw [IntKind.wrap_i64]; omega
      have w3 : IntKind.i64.wrap ((i : Int) + 1) = (i : Int) + 1 := by rw [IntKind.wrap_i64]; omega
      have w4 : IntKind.i64.wrap (((i : Int) + 1) * 64) = ((i : Int) + 1) * 64 := by rw [IntKind.wrap_i64]; omega
      have w5 : IntKind.i64.wrap ((a : Int) + (i : Int)) = (a : Int) + (i : Int) := by rw [IntKind.wrap_i64]; omega
      have hrow : Row wr x l := by
        rcases HH.out.2.1 with h | ⟨b, off, e, hc⟩
        · exact .inl h
        · exact row_same HH.out.2.1 (fun ad ha => hst.turned.block _ (by subst e; cases ha; exact row_lt (.inr ⟨b, off, rfl, hc⟩) (by omega)) (fun hk => HH.out.2.2.1 (fun e => absurd (by rw [e]; rfl : l.length = 0) (by omega)) ad ha (by simpa [ri] using hk)))
      obtain ⟨y, hy1, hy2⟩ := slice_both5 hrow (by omega : l.length = k * 64) (by omega : k * 64 ≤ cap) (i * 64) ((i + 1) * 64) (by omega) (by omega)
      have hsl : ∀ W, (Instr.sliceAt 31 (.slice x (k * 64) cap) (some (.int .i64 ((i : Int) * 64))) (some (.int .i64 (((i : Int) + 1) * 64))) none).run Try.prog W = .ok (.slice y 64 (cap - i * 64)) W := fun W => by have := hy2 W; rw [show (i + 1) * 64 - i * 64 = 64 by omega] at this; rw [show ((i : Int) * 64) = ((i * 64 : Nat) : Int) by omega, show (((i : Int) + 1) * 64) = (((i + 1) * 64 : Nat) : Int) by omega]; exact this
      rw [show (i + 1) * 64 - i * 64 = 64 by omega] at hy1
      have hpl : ((l.drop (i * 64)).take 64).length = 64 := by rw [List.length_take, List.length_drop]; omega
      have hyn : y = none → cap - i * 64 = 0 := fun e => by rw [e] at hy1; rcases hy1 with h | ⟨b, off, h, -⟩; rw [h] at hpl; cases hpl; cases h
      obtain ⟨-, -, h2, vs, hvl, h3, -⟩ := hst.ok.holds
      have hn : (wrN m a l i).n = m.n := wrN_n m a l i
      rw [hn] at h2 hvl
      have hput := fun (w2 : World) (v2 : Value) (hb : Below wr.heap.size wr w2) (O : Own w2 wr.heap.size v2 ((l.drop (i * 64)).take 64)) => hst.trans (ri_put hst.ok hb O (i := a + i) (by rw [hn]; omega))
      have hne : ¬ ((l.drop (i * 64)).take 64 = []) := fun e => by rw [e] at hpl; cases hpl
      simp only [if_neg hne] at hput
      obtain ⟨u0, hu0⟩ : ∃ u0, vs[a + i]? = some u0 := ⟨_, List.getElem?_eq_getElem (by omega)⟩
      have HS : Hid (∀ W, _) := hsl
      have HP : Hid _ := And.intro hput (And.intro h2 (And.intro h3 (And.intro hu0 (And.intro hy1 (And.intro hpl (And.intro hyn hlt))))))
      have qq1 : (0 : Int) ≤ (a : Int) + (i : Int) := by omega
      have qq2 : (a : Int) + (i : Int) < (m.n : Int) := by omega
      have ea : ((a : Int) + (i : Int)).toNat = a + i := by omega
      have hcap2 : 64 ≤ cap - i * 64 := by omega
      skip
      clear hput h2 h3 hu0 hy1 hy2 hpl hyn hsl hrow hvl hne hn hst
      go_wp2_with (first | (refine wpList_value rfl (exec_slice5 rfl rfl (HS.out _)) ?_) | (at_builtin; refine wpList_append_bytes _ rfl _ _ rfl wr.heap.size _ [] rfl (Own.nil _ _) y 64 (cap - i * 64) ((l.drop (i * 64)).take 64) rfl HP.out.2.2.2.2.2.1 HP.out.2.2.2.2.1 HP.out.2.2.2.2.2.2.1 hcap2 (by simp) (Nat.le_refl _) ?_; intro v2 u2 O2 g2; have hb2 : Below wr.heap.size wr u2 := (Below.refl _ _).grown g2 (Nat.le_refl _) (fun k hk => by cases hk); have c0 := er_at (HP.out.2.1.laterB hb2) 0; simp only [List.getElem?_cons_zero] at c0; have f3 := er_fz (HP.out.2.2.1.laterB hb2) (a + i); have c3 := er_at (HP.out.2.2.1.laterB hb2) (a + i); rw [HP.out.2.2.2.1] at c3; obtain ⟨a2, c2, e2, -, -, -, -, -⟩ := O2.open; rw [List.nil_append, HP.out.2.2.2.2.2.1] at e2; subst e2; have hfin := HP.out.1 u2 _ hb2 O2; have HQ : Hid _ := hfin; clear hfin O2 g2 hb2))
      go_roundw
      case rel => exact ⟨i + 1, _, by first | rfl | go_num, by omega, HQ.out⟩
      case measure => have := HP.out.2.2.2.2.2.2.2; simp [intOf]; omega
    · obtain rfl : i = k := by omega
      have q1 : ¬ ((i : Int) < (i : Int)) := by omega
      have F : Hid _ := hst
      clear hst hi hlt
      go_wp2
      go_ret
      exact ⟨rfl, _, F.out⟩
end Go.Proofs.Ytmkacgdbmojomaa
