/- What is counted; letters that are looked at. -/
import Derived.Test.YtfcaaljehhibgaaXWo1
import Derived.Test.YtfcaaljehhibgaaXDkW4
import Derived.Maps.AppendAt
import Derived.ArgAppend
namespace Go.Proofs.Ytfcaaljehhibgaa
open Go.RowKit
set_option linter.unusedVariables false
set_option maxRecDepth 4000

theorem wset3 {w : World} {g : Nat} {T : TypeId} {a b c : Value} (M : Blk w g T [a, b, c]) (x y z : Value) (B : Nat) (W0 : World) (hb : Below B W0 w) (hB : B ≤ g) (hs : B ≤ w.heap.size) :
    Blk (((w.setCell ⟨g, 0, none⟩ x).setCell ⟨g, 1, none⟩ y).setCell ⟨g, 2, none⟩ z) g T [x, y, z] ∧ Below B W0 (((w.setCell ⟨g, 0, none⟩ x).setCell ⟨g, 1, none⟩ y).setCell ⟨g, 2, none⟩ z) :=
  ⟨by simpa using ((M.set 0 x).set 1 y).set 2 z, (((hb.trans (grown_below (grown_set w g 0 _) _ hB hs)).trans (grown_below (grown_set _ g 1 _) _ hB (by simpa [World.setCell] using hs))).trans (grown_below (grown_set _ g 2 _) _ hB (by simpa [World.setCell] using hs)))⟩
theorem wset3_block (w : World) (g : Nat) (x y z : Value) (k : Nat) (h : k ≠ g) : (((w.setCell ⟨g, 0, none⟩ x).setCell ⟨g, 1, none⟩ y).setCell ⟨g, 2, none⟩ z).heap[k]? = w.heap[k]? := by
  rw [Below.heap_setCell _ _ _ _ h, Below.heap_setCell _ _ _ _ h, Below.heap_setCell _ _ _ _ h]
theorem wblk3 {w : World} {g : Nat} {T : TypeId} {a b c : Value} (M : Blk w g T [a, b, c]) : (w.cell? ⟨g, 0, none⟩ = some a ∧ w.cell? ⟨g, 1, none⟩ = some b ∧ w.cell? ⟨g, 2, none⟩ = some c) ∧ w.frozen? ⟨g, 0, none⟩ = false ∧ w.frozen? ⟨g, 1, none⟩ = false ∧ w.frozen? ⟨g, 2, none⟩ = false :=
  ⟨⟨M.cell (by simp [maxLen]) 0 (by simp), M.cell (by simp [maxLen]) 1 (by simp), M.cell (by simp [maxLen]) 2 (by simp)⟩, M.frozen (by simp [maxLen]) 0, M.frozen (by simp [maxLen]) 1, M.frozen (by simp [maxLen]) 2⟩





theorem wo_form {w : World} {base size n : Nat} {e : TypeId} {v : Value} {xs : List Value} (h : w.ownsRow base e size v n xs) : ∃ a c, v = .slice a n c := by
  obtain ⟨_, ⟨h1, h2⟩ | ⟨g, cap, cur, h1, _⟩⟩ := h
  · exact ⟨_, _, h2 ▸ h1⟩
  · exact ⟨_, _, h1⟩

/-- is there such a letter? -/
def Wm.letE (m : Wm) (k : Int) : Int := if 0 ≤ k ∧ k < m.fl.length then 0 else 1


end Go.Proofs.Ytfcaaljehhibgaa

/- Letters that are looked at. -/
namespace Go.Proofs.Ytfcaaljehhibgaa
open Go.RowKit
set_option linter.unusedVariables false
set_option maxRecDepth 4000


def lv (x y : Nat) (v : Value) : Value := .agg #[.int .i64 x, .int .i64 y, v]


end Go.Proofs.Ytfcaaljehhibgaa

/- Letters that are sent, and doubled. -/
namespace Go.Proofs.Ytfcaaljehhibgaa
open Go.RowKit
set_option linter.unusedVariables false
set_option maxRecDepth 4000




section
variable {w w2 w5 : World} {g : Nat} {p : Wp} {m : Wm} {fv fv' : Value} {vs us : List Value} {l : Lt} {ks : List Nat}




end



end Go.Proofs.Ytfcaaljehhibgaa

/- Letters that are sent. -/
namespace Go.Proofs.Ytfcaaljehhibgaa
open Go.RowKit
set_option linter.unusedVariables false
set_option maxRecDepth 4000

def Wm.sendE (m : Wm) (x y : Int) (l : List (BitVec 8)) : Int := if m.cl = true then 5 else if ¬ (hasW m.ck.length x = true ∧ hasW m.ck.length y = true) then 1 else if 65536 < l.length then 3 else if 10000 ≤ m.fl.length then 4 else 0
def Wm.send (m : Wm) (x y : Int) (l : List (BitVec 8)) : Wm := if m.sendE x y l = 0 then { m with fl := m.fl ++ [(x.toNat, y.toNat, l)] } else m
theorem send_wf {m : Wm} (h : m.Wf) (x y : Int) (l : List (BitVec 8)) : (m.send x y l).Wf := by
  unfold Wm.send
  split
  · rename_i he
    unfold Wm.sendE at he
    split at he
    · cases he
    · split at he
      · cases he
      · rename_i h1
        split at he
        · cases he
        · rename_i h2
          split at he
          · cases he
          · rename_i h3
            have h1' : hasW m.ck.length x = true ∧ hasW m.ck.length y = true := Decidable.of_not_not h1
            obtain ⟨a, rfl, ha⟩ := at_ck h1'.1
            obtain ⟨b, rfl, hb⟩ := at_ck h1'.2
            refine ⟨h.one, h.five, by simp; omega, h.mask, ?_, h.rho1, h.rho2, h.late⟩
            intro q hq
            rcases List.mem_append.1 hq with hq | hq
            · exact h.each q hq
            · rw [List.mem_singleton] at hq; subst hq; simp only [Int.toNat_natCast]; exact ⟨ha, hb, by omega⟩
  · exact h






end Go.Proofs.Ytfcaaljehhibgaa

/- A letter that is taken out of the row. -/
namespace Go.Proofs.Ytfcaaljehhibgaa
open Go.RowKit
set_option linter.unusedVariables false
set_option maxRecDepth 4000

theorem blk_at {w : World} {g : Nat} {t : TypeId} {xs : List Value} (h : Blk w g t xs) (i : Nat) : w.cell? ⟨g, i, none⟩ = xs[i]? := by
  unfold Blk at h; simp [World.cell?, h]
theorem blk_frozen {w : World} {g : Nat} {t : TypeId} {xs : List Value} (h : Blk w g t xs) (i : Nat) : w.frozen? ⟨g, i, none⟩ = false := by
  unfold Blk at h; simp [World.frozen?, h]
theorem splice_cons {α : Type} (xs : List α) (o : Nat) (v : α) (r : List α) (h : o + 1 + r.length ≤ xs.length) : splice (xs.set o v) (o + 1) r = splice xs o (v :: r) := by
  unfold splice
  have e1 : (xs.set o v).take (o + 1) = xs.take o ++ [v] := by
    rw [List.take_succ_eq_append_getElem (by simp; omega), List.take_set_of_le (Nat.le_refl _)]
    simp
  have e2 : (xs.set o v).drop (o + 1 + r.length) = xs.drop (o + (v :: r).length) := by
    rw [List.drop_set, if_pos (by omega)]
    congr 1
    simp; omega
  rw [e1, e2]
  simp
theorem Blk.setCells {g : Nat} {t : TypeId} : ∀ (vs : List Value) (o : Nat) (w : World) (xs : List Value), Blk w g t xs → o + vs.length ≤ xs.length → Blk (w.setCells g o vs) g t (splice xs o vs) ∧ w.grownBy (w.setCells g o vs) (some g)
  | [], o, w, xs, h, hl => ⟨by simpa [World.setCells, splice] using h, ⟨rfl, rfl, rfl, Nat.le_refl _, fun _ _ _ => rfl⟩⟩
  | v :: r, o, w, xs, h, hl => by
    have hl' : o + 1 + r.length ≤ xs.length := by simp at hl; omega
    obtain ⟨h1, h2⟩ := Blk.setCells r (o + 1) (w.setCell ⟨g, o, none⟩ v) (xs.set o v) (h.set o v) (by rw [List.length_set]; exact hl')
    rw [splice_cons xs o v r hl'] at h1
    exact ⟨h1, grown_trans (grown_set w g o v) h2⟩



theorem step_run_app {ops : Array Oper} {o : Oper} {a : Act} {w w' : World} {v' : Value} {K : Act → World → Prop} {Q : Exit → Act → World → Prop} {E : Prop} (hg : o.guard = none) (s x : Operand) (t1 t2 : TypeId)
    (ho : o.op = .call { callee := .builtin .append, args := #[s, x], argTypes := #[t1, t2] }) (vs vx : Value) (hs : a.eval s = vs) (hx : a.eval x = vx) (hr : (Builtin.append_ #[t1, t2] o.type #[vs, vx]).run Try.prog w = .ok v' w') (next : K (a.put o.dst v') w') :
    if Region.wanted o (yielded ops a.tmps) = true then Oper.wp Try.prog o a w K Q else E := by
  have hw : Region.wanted o (yielded ops a.tmps) = true := by simp [Region.wanted, hg]
  rw [if_pos hw]
  unfold Oper.wp
  simp only [execOp, ho, resolve, invoke, builtin, Sem.run_bind, Sem.run_pure, Result.andThen_ok, List.map_toArray, List.map_cons, List.map_nil, hs, hx, hr]
  exact next

theorem cut_list (cur : List Value) (n k : Nat) (hk : k < n) (hl : n * 3 ≤ cur.length) :
    (splice (splice cur (k * 3) ((cur.take (n * 3)).drop ((k + 1) * 3))) ((n - 1) * 3) [.int .i64 0, .int .i64 0, .slice none 0 0]).take ((n - 1) * 3) = cur.take (k * 3) ++ (cur.take (n * 3)).drop ((k + 1) * 3) := by
  have e1 : ((cur.take (n * 3)).drop ((k + 1) * 3)).length = (n - 1 - k) * 3 := by rw [List.length_drop, List.length_take]; omega
  have e2 : (cur.take (k * 3)).length = k * 3 := by rw [List.length_take]; omega
  generalize hd : (cur.take (n * 3)).drop ((k + 1) * 3) = D at *
  have e3 : (splice cur (k * 3) D).length = cur.length := length_splice _ _ _ (by omega)
  unfold splice at *
  rw [List.take_append_of_le_length (by rw [List.length_take]; omega), List.take_take, Nat.min_self, ← List.append_assoc, List.take_append_of_le_length (by rw [List.length_append]; omega)]
  exact List.take_of_length_le (by rw [List.length_append]; omega)


end Go.Proofs.Ytfcaaljehhibgaa
