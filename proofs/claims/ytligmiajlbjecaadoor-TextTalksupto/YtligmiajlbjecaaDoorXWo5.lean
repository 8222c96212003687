/- What is counted; letters that are looked at. -/
import Derived.Test.YtligmiajlbjecaaDoorXWo1
import Derived.Test.YtligmiajlbjecaaDoorXDkW4
import Derived.Maps.AppendAt
import Derived.ArgAppend
namespace Go.Proofs.YtligmiajlbjecaaDoor
open Go.RowKit
set_option linter.unusedVariables false
set_option maxRecDepth 4000

theorem wset3 {w : World} {g : Nat} {T : TypeId} {a b c : Value} (M : Blk w g T [a, b, c]) (x y z : Value) (B : Nat) (W0 : World) (hb : Below B W0 w) (hB : B ≤ g) (hs : B ≤ w.heap.size) :
    Blk (((w.setCell ⟨g, 0, none⟩ x).setCell ⟨g, 1, none⟩ y).setCell ⟨g, 2, none⟩ z) g T [x, y, z] ∧ Below B W0 (((w.setCell ⟨g, 0, none⟩ x).setCell ⟨g, 1, none⟩ y).setCell ⟨g, 2, none⟩ z) :=
  ⟨by simpa using ((M.set 0 x).set 1 y).set 2 z, (((hb.trans (grown_below (grown_set w g 0 _) _ hB hs)).trans (grown_below (grown_set _ g 1 _) _ hB (by simpa [World.setCell] using hs))).trans (grown_below (grown_set _ g 2 _) _ hB (by simpa [World.setCell] using hs)))⟩
theorem wset3_block (w : World) (g : Nat) (x y z : Value) (k : Nat) (h : k ≠ g) : (((w.setCell ⟨g, 0, none⟩ x).setCell ⟨g, 1, none⟩ y).setCell ⟨g, 2, none⟩ z).heap[k]? = w.heap[k]? := by
  rw [Below.heap_setCell _ _ _ _ h, Below.heap_setCell _ _ _ _ h, Below.heap_setCell _ _ _ _ h]
theorem wblk3 {w : World} {g : Nat} {T : TypeId} {a b c : Value} (M : Blk w g T [a, b, c]) : (w.cell? ⟨g, 0, none⟩ = some a ∧ w.cell? ⟨g, 1, none⟩ = some b ∧ w.cell? ⟨g, 2, none⟩ = some c) ∧ w.frozen? ⟨g, 0, none⟩ = false ∧ w.frozen? ⟨g, 1, none⟩ = false ∧ w.frozen? ⟨g, 2, none⟩ = false :=
  ⟨⟨M.cell (by simp [maxLen]) 0 (by simp), M.cell (by simp [maxLen]) 1 (by simp), M.cell (by simp [maxLen]) 2 (by simp)⟩, M.frozen (by simp [maxLen]) 0, M.frozen (by simp [maxLen]) 1, M.frozen (by simp [maxLen]) 2⟩





theorem wo_form {w : World} {base size n : Nat} {e : TypeId} {v : Value} {xs : List Value} (h : w.ownsRow base e size v n xs) : ∃ a c, v = .slice a n c := by
  obtain ⟨_, ⟨h1, h2⟩ | ⟨g, cap, cur, h1, _⟩⟩ := h
  · exact ⟨_, _, h2 ▸ h1⟩
  · exact ⟨_, _, h1⟩

/-- is there such a letter? -/
def Wm.letE (m : Wm) (k : Int) : Int := if 0 ≤ k ∧ k < m.fl.length then 0 else 1


end Go.Proofs.YtligmiajlbjecaaDoor

/- Letters that are looked at. -/
namespace Go.Proofs.YtligmiajlbjecaaDoor
open Go.RowKit
set_option linter.unusedVariables false
set_option maxRecDepth 4000


def lv (x y : Nat) (v : Value) : Value := .agg #[.int .i64 x, .int .i64 y, v]


end Go.Proofs.YtligmiajlbjecaaDoor

/- Letters that are sent, and doubled. -/
namespace Go.Proofs.YtligmiajlbjecaaDoor
open Go.RowKit
set_option linter.unusedVariables false
set_option maxRecDepth 4000




section
variable {w w2 w5 : World} {g : Nat} {p : Wp} {m : Wm} {fv fv' : Value} {vs us : List Value} {l : Lt} {ks : List Nat}




end



end Go.Proofs.YtligmiajlbjecaaDoor

/- Letters that are sent. -/
namespace Go.Proofs.YtligmiajlbjecaaDoor
open Go.RowKit
set_option linter.unusedVariables false
set_option maxRecDepth 4000

def Wm.sendE (m : Wm) (x y : Int) (l : List (BitVec 8)) : Int := if m.cl = true then 5 else if ¬ (hasW m.ck.length x = true ∧ hasW m.ck.length y = true) then 1 else if 65536 < l.length then 3 else if 10000 ≤ m.fl.length then 4 else 0
def Wm.send (m : Wm) (x y : Int) (l : List (BitVec 8)) : Wm := if m.sendE x y l = 0 then { m with fl := m.fl ++ [(x.toNat, y.toNat, l)] } else m
theorem send_wf {m : Wm} (h : m.Wf) (x y : Int) (l : List (BitVec 8)) : (m.send x y l).Wf := by
  unfold Wm.send
  split
  · rename_i he
    unfold Wm.sendE at he
    split at he
    · cases he
    · split at he
      · cases he
      · rename_i h1
        split at he
        · cases he
        · rename_i h2
          split at he
          · cases he
          · rename_i h3
            have h1' : hasW m.ck.length x = true ∧ hasW m.ck.length y = true := Decidable.of_not_not h1
            obtain ⟨a, rfl, ha⟩ := at_ck h1'.1
            obtain ⟨b, rfl, hb⟩ := at_ck h1'.2
            refine ⟨h.one, h.five, by simp; omega, h.mask, ?_, h.rho1, h.rho2, h.late⟩
            intro q hq
            rcases List.mem_append.1 hq with hq | hq
            · exact h.each q hq
            · rw [List.mem_singleton] at hq; subst hq; simp only [Int.toNat_natCast]; exact ⟨ha, hb, by omega⟩
  · exact h






end Go.Proofs.YtligmiajlbjecaaDoor

/- A letter that is taken out of the row. -/
namespace Go.Proofs.YtligmiajlbjecaaDoor
open Go.RowKit
set_option linter.unusedVariables false
set_option maxRecDepth 4000

theorem blk_at {w : World} {g : Nat} {t : TypeId} {xs : List Value} (h : Blk w g t xs) (i : Nat) : w.cell? ⟨g, i, none⟩ = xs[i]? := by
  unfold Blk at h; simp [World.cell?, h]
theorem blk_frozen {w : World} {g : Nat} {t : TypeId} {xs : List Value} (h : Blk w g t xs) (i : Nat) : w.frozen? ⟨g, i, none⟩ = false := by
  unfold Blk at h; simp [World.frozen?, h]
theorem splice_cons {α : Type} (xs : List α) (o : Nat) (v : α) (r : List α) (h : o + 1 + r.length ≤ xs.length) : splice (xs.set o v) (o + 1) r = splice xs o (v :: r) := by
  unfold splice
  have e1 : (xs.set o v).take (o + 1) = xs.take o ++ [v] := by
    rw [List.take_succ_eq_append_getElem (by simp; omega), List.take_set_of_le (Nat.le_refl _)]
    simp
  have e2 : (xs.set o v).drop (o + 1 + r.length) = xs.drop (o + (v :: r).length) := by
    rw [List.drop_set, if_pos (by omega)]
    congr 1
    simp; omega
  rw [e1, e2]
  simp
theorem Blk.setCells {g : Nat} {t : TypeId} : ∀ (vs : List Value) (o : Nat) (w : World) (xs : List Value), Blk w g t xs → o + vs.length ≤ xs.length → Blk (w.setCells g o vs) g t (splice xs o vs) ∧ w.grownBy (w.setCells g o vs) (some g)
  | [], o, w, xs, h, hl => ⟨by simpa [World.setCells, splice] using h, ⟨rfl, rfl, rfl, Nat.le_refl _, fun _ _ _ => rfl⟩⟩
  | v :: r, o, w, xs, h, hl => by
    have hl' : o + 1 + r.length ≤ xs.length := by simp at hl; omega
    obtain ⟨h1, h2⟩ := Blk.setCells r (o + 1) (w.setCell ⟨g, o, none⟩ v) (xs.set o v) (h.set o v) (by rw [List.length_set]; exact hl')
    rw [splice_cons xs o v r hl'] at h1
    exact ⟨h1, grown_trans (grown_set w g o v) h2⟩



theorem step_run_app {ops : Array Oper} {o : Oper} {a : Act} {w w' : World} {v' : Value} {K : Act → World → Prop} {Q : Exit → Act → World → Prop} {E : Prop} (hg : o.guard = none) (s x : Operand) (t1 t2 : TypeId)
    (ho : o.op = .call { callee := .builtin .append, args := #[s, x], argTypes := #[t1, t2] }) (vs vx : Value) (hs : a.eval s = vs) (hx : a.eval x = vx) (hr : (Builtin.append_ #[t1, t2] o.type #[vs, vx]).run Tryd.prog w = .ok v' w') (next : K (a.put o.dst v') w') :
    if Region.wanted o (yielded ops a.tmps) = true then Oper.wp Tryd.prog o a w K Q else E := by
  have hw : Region.wanted o (yielded ops a.tmps) = true := by simp [Region.wanted, hg]
  rw [if_pos hw]
  unfold Oper.wp
  simp only [execOp, ho, resolve, invoke, builtin, Sem.run_bind, Sem.run_pure, Result.andThen_ok, List.map_toArray, List.map_cons, List.map_nil, hs, hx, hr]
  exact next

theorem cut_list (cur : List Value) (n k : Nat) (hk : k < n) (hl : n * 3 ≤ cur.length) :
    (splice (splice cur (k * 3) ((cur.take (n * 3)).drop ((k + 1) * 3))) ((n - 1) * 3) [.int .i64 0, .int .i64 0, .slice none 0 0]).take ((n - 1) * 3) = cur.take (k * 3) ++ (cur.take (n * 3)).drop ((k + 1) * 3) := by
  have e1 : ((cur.take (n * 3)).drop ((k + 1) * 3)).length = (n - 1 - k) * 3 := by rw [List.length_drop, List.length_take]; omega
  have e2 : (cur.take (k * 3)).length = k * 3 := by rw [List.length_take]; omega
  generalize hd : (cur.take (n * 3)).drop ((k + 1) * 3) = D at *
  have e3 : (splice cur (k * 3) D).length = cur.length := length_splice _ _ _ (by omega)
  unfold splice at *
  rw [List.take_append_of_le_length (by rw [List.length_take]; omega), List.take_take, Nat.min_self, ← List.append_assoc, List.take_append_of_le_length (by rw [List.length_append]; omega)]
  exact List.take_of_length_le (by rw [List.length_append]; omega)


end Go.Proofs.YtligmiajlbjecaaDoor

/- Letters that are lost, doubled. -/
namespace Go.Proofs.YtligmiajlbjecaaDoor
open Go.RowKit
set_option linter.unusedVariables false
set_option maxRecDepth 4000

def Wm.del (m : Wm) (k : Nat) : Wm := { m with fl := m.fl.take k ++ m.fl.drop (k + 1) }
theorem del_wf {m : Wm} (h : m.Wf) (k : Nat) : (m.del k).Wf := by
  refine ⟨h.one, h.five, ?_, h.mask, ?_, h.rho1, h.rho2, h.late⟩
  · have := h.full
    simp only [Wm.del, List.length_append, List.length_take, List.length_drop]; omega
  · intro l hl
    rcases List.mem_append.1 hl with hl | hl
    · exact h.each l (List.mem_of_mem_take hl)
    · exact h.each l (List.mem_of_mem_drop hl)
theorem Blk.step {w w' : World} {o o' : Ob} {k : Nat} {T : TypeId} {xs : List Value} (h : Blk w k T xs) (s : Step w w' o o') (hk : k ∉ o.W) : Blk w' k T xs := h.turned s.turned hk

def Wm.lose (m : Wm) (k : Nat) : Wm := { m.del k with lo := m.lo + 1 }
def Wm.come (m : Wm) (k : Nat) : Wm := { m.del k with tk := m.tk + 1 }
theorem lose_wf {m : Wm} (h : m.Wf) (k : Nat) : (m.lose k).Wf := by
  have := del_wf h k
  exact ⟨this.one, this.five, this.full, this.mask, this.each, this.rho1, this.rho2, this.late⟩
theorem come_wf {m : Wm} (h : m.Wf) (k : Nat) : (m.come k).Wf := by
  have := del_wf h k
  exact ⟨this.one, this.five, this.full, this.mask, this.each, this.rho1, this.rho2, this.late⟩



def Wm.twice (m : Wm) (k : Nat) : Wm := { m with fl := m.fl ++ (m.fl[k]?).toList }
theorem twice_wf {m : Wm} (h : m.Wf) (k : Nat) (hf : m.fl.length < 10000) : (m.twice k).Wf := by
  refine ⟨h.one, h.five, ?_, h.mask, ?_, h.rho1, h.rho2, h.late⟩
  · simp only [Wm.twice, List.length_append]; cases m.fl[k]? <;> simp <;> omega
  · intro l hl
    rcases List.mem_append.1 hl with hl | hl
    · exact h.each l hl
    · cases e : m.fl[k]? with
      | none => rw [e] at hl; cases hl
      | some y => rw [e] at hl; simp at hl; subst hl; exact h.each _ (List.mem_of_getElem? e)


end Go.Proofs.YtligmiajlbjecaaDoor

/- Letters that come. -/
namespace Go.Proofs.YtligmiajlbjecaaDoor
open Go.RowKit
set_option linter.unusedVariables false
set_option maxRecDepth 4000

def lz : Value := .agg #[.int .i64 0, .int .i64 0, .slice none 0 0]

theorem step_set3 {w w' : World} {o o' : Ob} (s : Step w w' o o') (g : Nat) (hg : g < w'.heap.size) (hn : w.heap.size ≤ g) (hW : g ∉ o'.W) (hV : g ∉ o'.V) (x y z : Value) :
    Step w (((w'.setCell ⟨g, 0, none⟩ x).setCell ⟨g, 1, none⟩ y).setCell ⟨g, 2, none⟩ z) o o' := by
  have hb := wset3_block w' g x y z
  have hz : (((w'.setCell ⟨g, 0, none⟩ x).setCell ⟨g, 1, none⟩ y).setCell ⟨g, 2, none⟩ z).heap.size = w'.heap.size := by simp [World.setCell]
  refine ⟨⟨s.turned.os, s.turned.tape, s.turned.output, by have := s.turned.size; omega, fun k hk hn' => ?_⟩, ⟨s.ok.stable _ _ (fun k hk => hb k (fun e => ?_)) s.ok.holds, fun k hk => by rw [hz]; exact s.ok.lt k hk, s.ok.apart, s.ok.stable⟩, s.writes, s.reads⟩
  · rw [hb k (by omega)]; exact s.turned.block k hk hn'
  · subst e; rcases hk with hk | hk; exact hW hk; exact hV hk



end Go.Proofs.YtligmiajlbjecaaDoor

/- The world's fixed calls. -/
namespace Go.Proofs.YtligmiajlbjecaaDoor
open Go.RowKit
set_option linter.unusedVariables false
set_option maxRecDepth 4000

def mI (k : Nat) : Wm := ⟨[], 0, [k, 0], 3, 0, 0, false⟩
def mC : Wm := ⟨[], 1, [3, 0], 3, 0, 0, false⟩
def mS : Wm := ⟨[(0, 1, [97#8])], 1, [3, 0], 3, 0, 0, false⟩
def mL : Wm := ⟨[], 1, [3, 0], 3, 0, 1, false⟩
theorem mI_new : Wm.new 2 3 = mI 0 := rfl
theorem mI_wf (k : Nat) (h : k ≤ 3) : (mI k).Wf :=
  ⟨by simp [mI], by simp [mI], by simp [mI], by simp [mI], (fun l h => by cases h), by simp [mI], by simp [mI], fun c hc => by simp [mI] at hc; omega⟩
theorem mI_tick (k : Nat) (h : k < 3) : (mI k).tickE 0 = 0 ∧ (mI k).tick 0 = mI (k + 1) := by
  match k, h with
  | 0, _ => exact ⟨by decide, by rfl⟩
  | 1, _ => exact ⟨by decide, by rfl⟩
  | 2, _ => exact ⟨by decide, by rfl⟩
theorem mI_stop : (mI 3).tickE 0 = 5 ∧ (mI 3).tick 0 = mI 3 := ⟨by decide, by rfl⟩
theorem mI_cut : (mI 3).cutE 1 = 0 ∧ (mI 3).cutTo 1 = mC := ⟨by decide, by rfl⟩
theorem mC_send : mC.sendE 0 1 [97#8] = 0 ∧ mC.send 0 1 [97#8] = mS := ⟨by decide, by rfl⟩
theorem mS_lose : mS.lose 0 = mL := by rfl
theorem mC_wf : mC.Wf := mI_cut.2 ▸ cut_wf (mI_wf 3 (by omega)) 1
theorem mS_wf : mS.Wf := mC_send.2 ▸ send_wf mC_wf 0 1 [97#8]
theorem mL_wf : mL.Wf := mS_lose ▸ lose_wf mS_wf 0
theorem mL_clock : mL.clock 0 = 3 := by decide


theorem Step.far {w w' : World} {o o' : Ob} {B : Nat} (s : Step w w' o o') (hB : B ≤ w.heap.size) (h : ∀ k ∈ o.W, B ≤ k) : ∀ k ∈ o'.W, B ≤ k := fun k hk => by
  rcases s.writes k hk with e | e
  · exact h k e
  · omega
/-- an object whose blocks are new since w -/
structure Mine (w W : World) (o : Ob) : Prop where
  ok : o.Ok W
  far : ∀ k ∈ o.W, w.heap.size ≤ k
  below : Below w.heap.size w W
theorem Mine.step {w W W' : World} {o o' : Ob} (h : Mine w W o) (s : Step W W' o o') : Mine w W' o' :=
  ⟨s.ok, s.far h.below.size h.far, h.below.trans (s.below w.heap.size h.below.size h.far)⟩
theorem Mine.later {w W W' : World} {o : Ob} (h : Mine w W o) (hb : Below W.heap.size W W') : Mine w W' o := ⟨h.ok.later hb, h.far, below_then h.below hb⟩


end Go.Proofs.YtligmiajlbjecaaDoor
