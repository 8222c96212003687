/- Letters that come at most once: what is counted. -/
import Derived.Test.YtjfodmdijajfbaaWo12
namespace Go.Proofs.Ytjfodmdijajfbaa
open Go.RowKit
set_option linter.unusedVariables false
set_option maxRecDepth 4000

/-- which letter it is -/
def idOf (l : Lt) : Nat := (l.2.2.headD 0).toNat
def cntOf (fl : List Lt) (id : Nat) : Nat := fl.countP (fun l => idOf l == id)
theorem cnt_append (a b : List Lt) (id : Nat) : cntOf (a ++ b) id = cntOf a id + cntOf b id := List.countP_append
theorem cnt_one (l : Lt) (id : Nat) : cntOf [l] id = if idOf l = id then 1 else 0 := by
  unfold cntOf
  by_cases h : idOf l = id <;> simp [h]
theorem cnt_del (fl : List Lt) (k : Nat) (hk : k < fl.length) (id : Nat) : cntOf fl id = cntOf (fl.take k ++ fl.drop (k + 1)) id + (if idOf fl[k] = id then 1 else 0) := by
  have e : fl = fl.take k ++ ([fl[k]] ++ fl.drop (k + 1)) := by
    rw [List.singleton_append, ← List.drop_eq_getElem_cons hk, List.take_append_drop]
  conv => lhs; rw [e]
  rw [cnt_append, cnt_append, cnt_append, cnt_one]
  omega
theorem getD_set (l : List Nat) (i j z : Nat) (h : i < l.length) : (l.set i z).getD j 0 = if i = j then z else l.getD j 0 := by
  simp only [List.getD, List.getElem?_set]
  split <;> simp_all

structure OM (m : Wm) (cm tw : List Nat) (n s i : Nat) : Prop where
  wf : m.Wf
  len : m.ck.length = n
  op : m.cl = false
  l1 : cm.length = 200
  l2 : tw.length = 200
  lets : ∀ l ∈ m.fl, ∃ b : BitVec 8, l.2.2 = [b] ∧ b.toNat < s
  cnt : ∀ id, cm.getD id 0 + cntOf m.fl id ≤ tw.getD id 0 + (if id < s then 1 else 0)
  fs : s ≤ i
  ft : m.tk ≤ i
  fo : m.lo ≤ i
  ff : m.fl.length ≤ i
  fc : ∀ c ∈ cm, c ≤ i
  fw : ∀ c ∈ tw, c ≤ i
  most : i ≤ 150
section
variable {m : Wm} {cm tw : List Nat} {n s i : Nat}
theorem OM.on (h : OM m cm tw n s i) (hi : i < 150) : OM m cm tw n s (i + 1) :=
  ⟨h.wf, h.len, h.op, h.l1, h.l2, h.lets, h.cnt, by have := h.fs; omega, by have := h.ft; omega, by have := h.fo; omega, by have := h.ff; omega, fun c hc => by have := h.fc c hc; omega, fun c hc => by have := h.fw c hc; omega, by omega⟩
theorem OM.cut (h : OM m cm tw n s i) (hi : i < 150) (k : Int) : OM (m.cutTo k) cm tw n s (i + 1) := by
  have h' := h.on hi
  unfold Wm.cutTo
  split
  · rename_i hk
    have := cut_wf h.wf k
    unfold Wm.cutTo at this
    rw [if_pos hk] at this
    exact ⟨this, h.len, h.op, h.l1, h.l2, h.lets, h.cnt, h'.fs, h'.ft, h'.fo, h'.ff, h'.fc, h'.fw, h'.most⟩
  · exact h'
theorem OM.sendE (h : OM m cm tw n s i) (x y : Nat) (hx : x < n) (hy : y < n) : m.sendE x y [BitVec.ofNat 8 s] = 0 := by
  have hl := h.len
  have hf := h.ff
  have hm := h.most
  have a1 : hasW m.ck.length x = true := decide_eq_true (by omega)
  have a2 : hasW m.ck.length y = true := decide_eq_true (by omega)
  unfold Wm.sendE
  rw [if_neg (by rw [h.op]; decide), if_neg (fun e => e ⟨a1, a2⟩), if_neg (by simp), if_neg (by omega)]
theorem OM.send (h : OM m cm tw n s i) (hi : i < 150) (x y : Nat) (hx : x < n) (hy : y < n) : OM (m.send x y [BitVec.ofNat 8 s]) cm tw n (s + 1) (i + 1) := by
  have h' := h.on hi
  have hs := h.fs
  have e := h.sendE x y hx hy
  have hwf := send_wf h.wf x y [BitVec.ofNat 8 s]
  have e2 : m.send x y [BitVec.ofNat 8 s] = { m with fl := m.fl ++ [(x, y, [BitVec.ofNat 8 s])] } := by unfold Wm.send; rw [if_pos e, Int.toNat_natCast, Int.toNat_natCast]
  rw [e2] at hwf ⊢
  have hid : idOf (x, y, [BitVec.ofNat 8 s]) = s := by unfold idOf; simp; omega
  refine ⟨hwf, h.len, h.op, h.l1, h.l2, ?_, ?_, by omega, h'.ft, h'.fo, ?_, h'.fc, h'.fw, h'.most⟩
  · intro l hl
    rcases List.mem_append.1 hl with hl | hl
    · obtain ⟨b, h1, h2⟩ := h.lets l hl; exact ⟨b, h1, by omega⟩
    · rw [List.mem_singleton] at hl; subst hl
      exact ⟨BitVec.ofNat 8 s, rfl, by simp; omega⟩
  · intro id
    have := h.cnt id
    show cm.getD id 0 + cntOf (m.fl ++ [(x, y, [BitVec.ofNat 8 s])]) id ≤ _
    rw [cnt_append, cnt_one, hid]
    by_cases e1 : s = id
    · subst e1
      rw [if_neg (by omega)] at this
      rw [if_pos rfl, if_pos (by omega)]; omega
    · rw [if_neg e1]
      by_cases e3 : id < s
      · rw [if_pos e3] at this; rw [if_pos (by omega)]; omega
      · rw [if_neg e3] at this; rw [if_neg (by omega)]; omega
  · have := h.ff; simp only [List.length_append, List.length_singleton]; omega
theorem OM.lets' (h : OM m cm tw n s i) (k : Nat) : ∀ l ∈ m.fl.take k ++ m.fl.drop (k + 1), ∃ b : BitVec 8, l.2.2 = [b] ∧ b.toNat < s := by
  intro l hl
  rcases List.mem_append.1 hl with hl | hl
  · exact h.lets l (List.mem_of_mem_take hl)
  · exact h.lets l (List.mem_of_mem_drop hl)
theorem OM.lose (h : OM m cm tw n s i) (hi : i < 150) (k : Nat) (hk : k < m.fl.length) : OM (m.lose k) cm tw n s (i + 1) := by
  have h' := h.on hi
  refine ⟨lose_wf h.wf k, h.len, h.op, h.l1, h.l2, h.lets' k, ?_, h'.fs, h'.ft, ?_, ?_, h'.fc, h'.fw, h'.most⟩
  · intro id
    have := h.cnt id
    rw [cnt_del m.fl k hk id] at this
    show cm.getD id 0 + cntOf (m.fl.take k ++ m.fl.drop (k + 1)) id ≤ _
    omega
  · have := h.fo; show m.lo + 1 ≤ i + 1; omega
  · have := h.ff; show (m.fl.take k ++ m.fl.drop (k + 1)).length ≤ _; rw [List.length_append, List.length_take, List.length_drop]; omega
theorem OM.come (h : OM m cm tw n s i) (hi : i < 150) (k : Nat) (hk : k < m.fl.length) (id : Nat) (hid : idOf m.fl[k] = id) (hl : id < 200) : OM (m.come k) (cm.set id (cm.getD id 0 + 1)) tw n s (i + 1) := by
  have h' := h.on hi
  refine ⟨come_wf h.wf k, h.len, h.op, by simpa using h.l1, h.l2, h.lets' k, ?_, h'.fs, ?_, h'.fo, ?_, ?_, h'.fw, h'.most⟩
  · intro j
    have := h.cnt j
    rw [cnt_del m.fl k hk j, hid] at this
    show (cm.set id (cm.getD id 0 + 1)).getD j 0 + cntOf (m.fl.take k ++ m.fl.drop (k + 1)) j ≤ _
    rw [getD_set _ _ _ _ (by rw [h.l1]; exact hl)]
    by_cases e : id = j
    · subst e; rw [if_pos rfl] at this ⊢; omega
    · rw [if_neg e] at this ⊢; omega
  · have := h.ft; show m.tk + 1 ≤ i + 1; omega
  · have := h.ff; show (m.fl.take k ++ m.fl.drop (k + 1)).length ≤ _; rw [List.length_append, List.length_take, List.length_drop]; omega
  · intro c hc
    rcases List.mem_or_eq_of_mem_set hc with hc | rfl
    · have := h.fc c hc; omega
    · rw [List.getD]
      cases e : cm[id]? with
      | none => simp
      | some y => have := h.fc y (List.mem_of_getElem? e); simpa using this
theorem OM.twice (h : OM m cm tw n s i) (hi : i < 150) (k : Nat) (hk : k < m.fl.length) (id : Nat) (hid : idOf m.fl[k] = id) (hl : id < 200) : OM (m.twice k) cm (tw.set id (tw.getD id 0 + 1)) n s (i + 1) := by
  have h' := h.on hi
  have hf := h.ff
  have e0 : m.fl[k]? = some m.fl[k] := List.getElem?_eq_getElem hk
  refine ⟨twice_wf h.wf k (by omega), h.len, h.op, h.l1, by simpa using h.l2, ?_, ?_, h'.fs, h'.ft, h'.fo, ?_, h'.fc, ?_, h'.most⟩
  · intro l hl'
    rcases List.mem_append.1 hl' with hl' | hl'
    · exact h.lets l hl'
    · rw [e0] at hl'; simp at hl'; subst hl'; exact h.lets _ (List.getElem_mem hk)
  · intro j
    have := h.cnt j
    show cm.getD j 0 + cntOf (m.fl ++ (m.fl[k]?).toList) j ≤ _
    rw [e0, Option.toList_some, cnt_append, cnt_one, hid, getD_set _ _ _ _ (by rw [h.l2]; exact hl)]
    by_cases e : id = j
    · subst e; rw [if_pos rfl, if_pos rfl]; omega
    · rw [if_neg e, if_neg e]; omega
  · show (m.fl ++ (m.fl[k]?).toList).length ≤ _; rw [e0, Option.toList_some, List.length_append, List.length_singleton]; omega
  · intro c hc
    rcases List.mem_or_eq_of_mem_set hc with hc | rfl
    · have := h.fw c hc; omega
    · rw [List.getD]
      cases e : tw[id]? with
      | none => simp
      | some y => have := h.fw y (List.mem_of_getElem? e); simpa using this
end
theorem om_new (n : Nat) (hn : 1 ≤ n ∧ n ≤ 5) : OM (Wm.new n 5) (List.replicate 200 0) (List.replicate 200 0) n 0 0 :=
  ⟨Wm.new_wf hn (by omega), by simp [Wm.new], rfl, by simp, by simp, (fun l hl => by cases hl), (fun id => by
      have e : (List.replicate 200 0).getD id 0 = 0 := by
        rw [List.getD, List.getElem?_replicate]; split <;> rfl
      rw [e]; simp [Wm.new, cntOf]), Nat.le_refl _, Nat.le_refl _, Nat.le_refl _, Nat.le_refl _, (fun c hc => by have := List.eq_of_mem_replicate hc; omega), (fun c hc => by have := List.eq_of_mem_replicate hc; omega), by omega⟩

/-- in memory -/
structure OW (w W : World) (g : Nat) (p : Wp) (m : Wm) (q1 q2 : Nat) (cm tw : List Nat) : Prop where
  mine : Mine w W (wo g p m)
  b1 : Blk W q1 3 (cks cm)
  b2 : Blk W q2 3 (cks tw)
  f1 : w.heap.size ≤ q1
  f2 : w.heap.size ≤ q2
  ne : q1 ≠ q2
  w1 : q1 ∉ (wo g p m).W ∧ q1 ∉ (wo g p m).V
  w2 : q2 ∉ (wo g p m).W ∧ q2 ∉ (wo g p m).V
section
variable {w W W' : World} {g : Nat} {p p' : Wp} {m m' : Wm} {q1 q2 : Nat} {cm tw : List Nat}
theorem OW.later (h : OW w W g p m q1 q2 cm tw) (hb : Below W.heap.size W W') : OW w W' g p m q1 q2 cm tw :=
  ⟨h.mine.later hb, h.b1.laterB hb, h.b2.laterB hb, h.f1, h.f2, h.ne, h.w1, h.w2⟩
theorem OW.step (h : OW w W g p m q1 q2 cm tw) (s : Step W W' (wo g p m) (wo g p' m')) : OW w W' g p' m' q1 q2 cm tw := by
  have key : ∀ q, q < W.heap.size → q ∉ (wo g p m).W ∧ q ∉ (wo g p m).V → q ∉ (wo g p' m').W ∧ q ∉ (wo g p' m').V := fun q hq hn =>
    ⟨fun e => by rcases s.writes q e with e | e; exact hn.1 e; omega, fun e => by rcases s.reads q e with e | e | e; exact hn.1 e; exact hn.2 e; omega⟩
  exact ⟨h.mine.step s, h.b1.step s h.w1.1, h.b2.step s h.w2.1, h.f1, h.f2, h.ne, key q1 h.b1.lt h.w1, key q2 h.b2.lt h.w2⟩
theorem cks_set (l : List Nat) (i z : Nat) : (cks l).set i (.int .i64 z) = cks (l.set i z) := by unfold cks; rw [List.map_set]
theorem OW.set1 (h : OW w W g p m q1 q2 cm tw) (i z : Nat) : OW w (W.setCell ⟨q1, i, none⟩ (.int .i64 z)) g p m q1 q2 (cm.set i z) tw := by
  have hs : ∀ k, k ≠ q1 → (W.setCell ⟨q1, i, none⟩ (.int .i64 z)).heap[k]? = W.heap[k]? := fun k hk => Below.heap_setCell _ _ _ _ hk
  refine ⟨⟨h.mine.ok.turned (turned_set W q1 i _) (fun k hk e => ?_), h.mine.far, h.mine.below.trans (grown_below (grown_set W q1 i _) _ h.f1 h.mine.below.size)⟩, ?_, ?_, h.f1, h.f2, h.ne, h.w1, h.w2⟩
  · subst e; rcases hk with hk | hk; exact h.w1.1 hk; exact h.w1.2 hk
  · have := h.b1.set i (.int .i64 z); rwa [cks_set] at this
  · have := h.b2; unfold Blk at *; rw [hs _ (Ne.symm h.ne)]; exact this
theorem OW.set2 (h : OW w W g p m q1 q2 cm tw) (i z : Nat) : OW w (W.setCell ⟨q2, i, none⟩ (.int .i64 z)) g p m q1 q2 cm (tw.set i z) := by
  have hs : ∀ k, k ≠ q2 → (W.setCell ⟨q2, i, none⟩ (.int .i64 z)).heap[k]? = W.heap[k]? := fun k hk => Below.heap_setCell _ _ _ _ hk
  refine ⟨⟨h.mine.ok.turned (turned_set W q2 i _) (fun k hk e => ?_), h.mine.far, h.mine.below.trans (grown_below (grown_set W q2 i _) _ h.f2 h.mine.below.size)⟩, ?_, ?_, h.f1, h.f2, h.ne, h.w1, h.w2⟩
  · subst e; rcases hk with hk | hk; exact h.w2.1 hk; exact h.w2.2 hk
  · have := h.b1; unfold Blk at *; rw [hs _ h.ne]; exact this
  · have := h.b2.set i (.int .i64 z); rwa [cks_set] at this
theorem OW.at1 (h : OW w W g p m q1 q2 cm tw) (k : Nat) (hk : k < cm.length) : W.cell? ⟨q1, k, none⟩ = some (.int .i64 (cm.getD k 0 : Nat)) ∧ W.frozen? ⟨q1, k, none⟩ = false :=
  ⟨by rw [blk_at h.b1, cks_at _ _ hk, List.getD, List.getElem?_eq_getElem hk]; rfl, blk_frozen h.b1 k⟩
theorem OW.at2 (h : OW w W g p m q1 q2 cm tw) (k : Nat) (hk : k < tw.length) : W.cell? ⟨q2, k, none⟩ = some (.int .i64 (tw.getD k 0 : Nat)) ∧ W.frozen? ⟨q2, k, none⟩ = false :=
  ⟨by rw [blk_at h.b2, cks_at _ _ hk, List.getD, List.getElem?_eq_getElem hk]; rfl, blk_frozen h.b2 k⟩
end
theorem info_int8 : (Try.prog.info? 3).map (fun i => (i.zero, i.size, i.bytes)) = some (some (.int .i64 0), 1, 8) := by kernel_rfl
theorem make_ints (N : Nat) (hN : N ≤ 1000) (u : World) : (Instr.makeSlice 38 (.int .i64 N) (.int .i64 N)).run Try.prog u = .ok (.slice (some ⟨u.heap.size, 0, none⟩) N N) (u.alloc (.cells (madeCells #[.int .i64 0] N) 3)) := by
  obtain ⟨i0, hi, hz0, hz1, hz2⟩ := info_parts info_int8
  have := run_make (P := Try.prog) u 38 3 i0 (.int .i64 0) Try.underlying38 hi hz0 .i64 .i64 N N (by omega) (by omega) (by rw [hz2]; omega) (by omega)
  rw [hz1] at this
  simpa [Value.cells] using this
theorem made_ints (u : World) (N : Nat) : Blk (u.alloc (.cells (madeCells #[.int .i64 0] N) 3)) u.heap.size 3 (cks (List.replicate N 0)) := by
  have e : (madeCells #[Value.int .i64 0] N) = (List.replicate N (Value.int .i64 0)).toArray := by
    apply Array.ext
    · simp [madeCells]
    · intro i h1 h2; simp [madeCells, Nat.mod_one]
  have e2 : cks (List.replicate N 0) = List.replicate N (Value.int .i64 0) := by unfold cks; simp
  rw [e2, e]; exact Blk.new' u _ _
end Go.Proofs.Ytjfodmdijajfbaa
