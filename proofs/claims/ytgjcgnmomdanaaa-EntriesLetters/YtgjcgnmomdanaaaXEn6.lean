/- An entry that is told; entries that are gathered. -/
import Derived.Test.YtgjcgnmomdanaaaXEn3
import Derived.Lib.ConvBytes
namespace Go.Proofs.Ytgjcgnmomdanaaa
open Go.RowKit
set_option linter.unusedVariables false

theorem Row.stay {w w' : World} {a : Option Addr} {l : List (BitVec 8)} (h : Row w a l) (hb : ∀ y, a = some y → w'.heap[y.block]? = w.heap[y.block]?) : Row w' a l := by
  rcases h with h | ⟨b, off, rfl, hc⟩
  · exact .inl h
  · exact .inr ⟨b, off, rfl, fun i hi => (World.cell?_of_block (w := w) (a := ⟨b, off + i, none⟩) (hb ⟨b, off, none⟩ rfl)).trans (hc i hi)⟩
/-- entries as cells; their bytes lie in the blocks V -/
def EsAt (V : List Nat) (w : World) : List Ent → List Value → Prop
  | [], [] => True
  | g :: gs, x :: y :: u :: vs => x = .int .i64 g.1 ∧ y = .int .i64 g.2.1 ∧ (∃ a cap, u = .slice a g.2.2.length cap ∧ g.2.2.length ≤ cap ∧ Row w a g.2.2 ∧ (a = none → cap = 0) ∧ ∀ y, a = some y → y.block ∈ V) ∧ EsAt V w gs vs
  | _, _ => False
theorem EsAt.length {V : List Nat} {w : World} {gs : List Ent} {vs : List Value} (h : EsAt V w gs vs) : vs.length = gs.length * 3 := by
  induction gs generalizing vs with
  | nil => match vs, h with | [], _ => rfl
  | cons g gs ih =>
    match vs, h with
    | x :: y :: u :: vs, ⟨_, _, _, h6⟩ => have := ih h6; simp only [List.length_cons]; omega
theorem EsAt.get {V : List Nat} {w : World} {gs : List Ent} {vs : List Value} (h : EsAt V w gs vs) (i : Nat) (hi : i < gs.length) :
    ∃ a cap, vs[i * 3]? = some (.int .i64 gs[i].1) ∧ vs[i * 3 + 1]? = some (.int .i64 gs[i].2.1) ∧ vs[i * 3 + 2]? = some (.slice a gs[i].2.2.length cap) ∧ gs[i].2.2.length ≤ cap ∧ Row w a gs[i].2.2 ∧ (a = none → cap = 0) := by
  induction gs generalizing vs i with
  | nil => simp at hi
  | cons g gs ih =>
    match vs, h with
    | x :: y :: u :: vs, ⟨h1, h1', ⟨a, cap, h2, h3, h4, h5, _⟩, h6⟩ =>
      cases i with
      | zero => subst h1; subst h1'; subst h2; exact ⟨a, cap, rfl, rfl, rfl, h3, h4, h5⟩
      | succ i =>
        obtain ⟨a, cap, k1, k2, k2', k3⟩ := ih h6 i (by simpa using hi)
        refine ⟨a, cap, ?_, ?_, ?_, k3⟩
        · rw [show (i + 1) * 3 = i * 3 + 1 + 1 + 1 by omega]; simpa using k1
        · rw [show (i + 1) * 3 + 1 = i * 3 + 1 + 1 + 1 + 1 by omega]; simpa using k2
        · rw [show (i + 1) * 3 + 2 = i * 3 + 2 + 1 + 1 + 1 by omega]; simpa using k2'
theorem EsAt.snoc {V : List Nat} {w : World} {gs : List Ent} {vs : List Value} (h : EsAt V w gs vs) (g : Ent) (a : Option Addr) (cap : Nat) (h1 : g.2.2.length ≤ cap) (h2 : Row w a g.2.2) (hn : a = none → cap = 0) (h3 : ∀ y, a = some y → y.block ∈ V) :
    EsAt V w (gs ++ [g]) (vs ++ [.int .i64 g.1, .int .i64 g.2.1, .slice a g.2.2.length cap]) := by
  induction gs generalizing vs with
  | nil => match vs, h with | [], _ => exact ⟨rfl, rfl, ⟨a, cap, rfl, h1, h2, hn, h3⟩, trivial⟩
  | cons g' gs ih =>
    match vs, h with
    | x :: y :: u :: vs, ⟨k1, k2, k3, k4⟩ => exact ⟨k1, k2, k3, ih k4⟩
theorem EsAt.same {V V' : List Nat} {w w' : World} {gs : List Ent} {vs : List Value} (h : EsAt V w gs vs) (hb : ∀ k ∈ V, w'.heap[k]? = w.heap[k]?) (hV : ∀ k ∈ V, k ∈ V') : EsAt V' w' gs vs := by
  induction gs generalizing vs with
  | nil => match vs, h with | [], _ => trivial
  | cons g gs ih =>
    match vs, h with
    | x :: y :: u :: vs, ⟨k1, k1', ⟨a, cap, h2, h3, h4, h5, h6⟩, k3⟩ => exact ⟨k1, k1', ⟨a, cap, h2, h3, h4.stay (fun y hy => hb _ (h6 y hy)), h5, fun y hy => hV _ (h6 y hy)⟩, ih k3⟩
/-- entries of the call's own -/
structure EsOwn (w : World) (base : Nat) (v : Value) (l : List Ent) (V : List Nat) (vs : List Value) : Prop where
  own : w.ownsRow base 49 3 v l.length vs
  each : EsAt V w l vs
  lt : ∀ k ∈ V, k < w.heap.size
  apart : ∀ k, v.ownBlock = some k → k ∉ V
theorem EsOwn.nil (w : World) (base : Nat) : EsOwn w base (.slice none 0 0) [] [] [] := ⟨World.ownsRow_nil _ _ _ _, trivial, (fun k h => by cases h), fun k h => by cases h⟩
theorem EsOwn.later {w w' : World} {base : Nat} {v : Value} {l : List Ent} {V : List Nat} {vs : List Value} (h : EsOwn w base v l V vs) (hb : Below w.heap.size w w') : EsOwn w' base v l V vs :=
  ⟨World.ownsRow.kept h.own (row := none) ⟨hb.os, hb.tape, hb.output, hb.size, fun k hk _ => hb.block k hk⟩ (by cases hv : v.ownBlock <;> simp), h.each.same (fun k hk => hb.block k (h.lt k hk)) (fun k hk => hk), fun k hk => Nat.lt_of_lt_of_le (h.lt k hk) hb.size, h.apart⟩
theorem EsOwn.args {w : World} {base : Nat} {v : Value} {l : List Ent} {V : List Nat} {vs : List Value} (h : EsOwn w base v l V vs) (hc : ∀ e ∈ l, I64 e.1 ∧ I64 e.2.1 ∧ e.2.2.length ≤ 140737488351232) : ∃ a cap, v = .slice a l.length cap ∧ l.length ≤ cap ∧ (a = none → cap = 0) ∧ EArgs w a l := by
  have ho := h.own
  obtain ⟨h1, ⟨h2, h3⟩ | ⟨g, cap, cur, rfl, hb, hh, hcc, hm, hs, ht⟩⟩ := ho
  · exact ⟨none, 0, by rw [h2, h3], by omega, fun _ => rfl, .inl (List.eq_nil_of_length_eq_zero h3)⟩
  · refine ⟨_, cap, rfl, hcc, (fun e => by cases e), .inr ⟨g, 0, rfl, fun i hi => ?_⟩⟩
    obtain ⟨a, c, k1, k2, k3, k4, k5, k6⟩ := h.each.get i hi
    have f := fun j (hj : j < l.length * 3) => World.ownsRow.cellAt h.own j hj
    have hcc := hc _ (List.getElem_mem hi)
    refine ⟨?_, ?_, ⟨a, c, ?_, k5, k4, k6⟩, hcc.1, hcc.2.1, hcc.2.2⟩
    · rw [Nat.zero_add, f _ (by omega)]; exact k1
    · rw [Nat.zero_add, f _ (by omega)]; exact k2
    · rw [Nat.zero_add, f _ (by omega)]; exact k3
theorem info_ent : (Try.prog.info? 49).map (fun i => (i.zero, i.size, i.bytes)) = some (some (.agg #[.int .i64 0, .int .i64 0, .slice none 0 0]), 3, 40) := by kernel_rfl
theorem wpList_append_ent (w : World) {ops : Array Oper} {rest : List Oper} {o : Oper} {a : Act} {Q : Exit → Act → World → Prop} (hg : o.guard = none) (s x : Operand)
    (ho : o.op = .call { callee := .builtin .append, args := #[s, x], argTypes := #[22, 22] }) (base : Nat) (v : Value) (l : List Ent) (V : List Nat) (vs : List Value) (hv : a.eval s = v) (hown : EsOwn w base v l V vs)
    (k : Nat) (e : Ent) (y : Option Addr) (cap : Nat) (hx : a.eval x = .slice (some ⟨k, 0, none⟩) 1 1) (hc : Blk w k 49 [.int .i64 e.1, .int .i64 e.2.1, .slice y e.2.2.length cap]) (h1 : e.2.2.length ≤ cap) (h2 : Row w y e.2.2) (hn : y = none → cap = 0)
    (hfar : ∀ z, y = some z → v.ownBlock ≠ some z.block ∧ z.block < w.heap.size) (hmax : l.length ≤ 1000000) (hbase : base ≤ w.heap.size)
    (next : ∀ (v' : Value) (w' : World), (∃ V' vs', EsOwn w' base v' (l ++ [e]) V' vs') → w.grownBy w' v.ownBlock → wpList Try.prog ops Q rest (a.put o.dst v') w') : wpList Try.prog ops Q (o :: rest) a w := by
  obtain ⟨i0, hi, hz0, hz1, hz2⟩ := info_parts info_ent
  refine wpList_append_own_at (w := w) hg s x 22 ho base 49 i0 (.agg #[.int .i64 0, .int .i64 0, .slice none 0 0]) 3 40 Try.underlying22 hi hz0 hz1 hz2 rfl (by decide) v l.length vs hv hown.own ⟨k, 0, none⟩ 1 1 [.int .i64 e.1, .int .i64 e.2.1, .slice y e.2.2.length cap] hx rfl ?_ ?_ (by unfold maxLen; omega) (by omega) hbase ?_
  · intro j u hj
    have hjl : j < 3 := by
      rcases Nat.lt_or_ge j 3 with h | h
      · exact h
      · rw [List.getElem?_eq_none (by simpa using h)] at hj; cases hj
    have e1 : (⟨k, 0, none⟩ : Addr).add j = ⟨k, j, none⟩ := by unfold Addr.add; split <;> simp_all
    rw [e1, hc.cell (by simp [maxLen]) j (by simpa using hjl)]; exact hj
  · intro u hu
    simp only [List.mem_cons, List.not_mem_nil, or_false] at hu
    rcases hu with rfl | rfl | rfl <;> rfl
  · intro v' w' k2 k3 _ k5
    have hlt := World.ownsRow.lt hown.own
    refine next v' w' ⟨V ++ (y.map (·.block)).toList, vs ++ [.int .i64 e.1, .int .i64 e.2.1, .slice y e.2.2.length cap], ?_, ?_, ?_, ?_⟩ k3
    · rw [List.length_append]; exact k2
    · refine (hown.each.same (V' := V ++ (y.map (·.block)).toList) (w' := w') (fun q hq => k3.block q (hown.lt q hq) (fun e => hown.apart q e.symm hq)) (fun q hq => List.mem_append_left _ hq)).snoc e y cap h1 ?_ hn ?_
      · exact h2.stay (fun z hz => k3.block _ (hfar z hz).2 (fun e => (hfar z hz).1 e.symm))
      · intro z hz; rw [hz]; simp
    · intro q hq
      have := k3.size
      rcases List.mem_append.1 hq with hq | hq
      · have := hown.lt q hq; omega
      · cases y with
        | none => simp at hq
        | some z => simp at hq; subst hq; have := (hfar z rfl).2; omega
    · intro q hq hm
      rcases k5 with k5 | k5
      · rw [k5] at hq
        rcases List.mem_append.1 hm with hm | hm
        · exact hown.apart q hq hm
        · cases y with
          | none => simp at hm
          | some z => simp at hm; subst hm; exact (hfar z rfl).1 hq
      · rw [k5] at hq
        cases hq
        rcases List.mem_append.1 hm with hm | hm
        · have := hown.lt _ hm; omega
        · cases y with
          | none => simp at hm
          | some z => simp at hm; have := (hfar z rfl).2; omega

theorem eset3 {w : World} {g : Nat} {T : TypeId} {a b c : Value} (M : Blk w g T [a, b, c]) (x y z : Value) (B : Nat) (W0 : World) (hb : Below B W0 w) (hB : B ≤ g) (hs : B ≤ w.heap.size) :
    Blk (((w.setCell ⟨g, 0, none⟩ x).setCell ⟨g, 1, none⟩ y).setCell ⟨g, 2, none⟩ z) g T [x, y, z] ∧ Below B W0 (((w.setCell ⟨g, 0, none⟩ x).setCell ⟨g, 1, none⟩ y).setCell ⟨g, 2, none⟩ z) :=
  ⟨by simpa using ((M.set 0 x).set 1 y).set 2 z, (((hb.trans (grown_below (grown_set w g 0 _) _ hB hs)).trans (grown_below (grown_set _ g 1 _) _ hB (by simpa [World.setCell] using hs))).trans (grown_below (grown_set _ g 2 _) _ hB (by simpa [World.setCell] using hs)))⟩
theorem eset3_size (w : World) (g : Nat) (x y z : Value) : (((w.setCell ⟨g, 0, none⟩ x).setCell ⟨g, 1, none⟩ y).setCell ⟨g, 2, none⟩ z).heap.size = w.heap.size := by simp [World.setCell]
theorem eset3_block (w : World) (g : Nat) (x y z : Value) (k : Nat) (h : k ≠ g) : (((w.setCell ⟨g, 0, none⟩ x).setCell ⟨g, 1, none⟩ y).setCell ⟨g, 2, none⟩ z).heap[k]? = w.heap[k]? := by
  rw [Below.heap_setCell _ _ _ _ h, Below.heap_setCell _ _ _ _ h, Below.heap_setCell _ _ _ _ h]
theorem eblk3 {w : World} {g : Nat} {T : TypeId} {a b c : Value} (M : Blk w g T [a, b, c]) : (w.cell? ⟨g, 0, none⟩ = some a ∧ w.cell? ⟨g, 1, none⟩ = some b ∧ w.cell? ⟨g, 2, none⟩ = some c) ∧ w.frozen? ⟨g, 0, none⟩ = false ∧ w.frozen? ⟨g, 1, none⟩ = false ∧ w.frozen? ⟨g, 2, none⟩ = false :=
  ⟨⟨M.cell (by simp [maxLen]) 0 (by simp), M.cell (by simp [maxLen]) 1 (by simp), M.cell (by simp [maxLen]) 2 (by simp)⟩, M.frozen (by simp [maxLen]) 0, M.frozen (by simp [maxLen]) 1, M.frozen (by simp [maxLen]) 2⟩
/-- a string's bytes as a new row -/
theorem bytes_of_str (w : World) (l : List (BitVec 8)) : ∃ c w', (convert 9 23 (.string (str l))).run Try.prog w = .ok (.slice (some ⟨w.heap.size, 0, none⟩) l.length c) w' ∧ l.length ≤ c ∧ w'.heap.size = w.heap.size + 1 ∧ Row w' (some ⟨w.heap.size, 0, none⟩) l ∧ Below w.heap.size w w' := by
  have hd : (str l).data.toList = l.map (fun c : BitVec 8 => UInt8.ofNat c.toNat) := by
    unfold str; rw [strOfNums_data, List.map_map]; exact List.map_congr_left (fun c _ => rfl)
  have hsz : (str l).size = l.length := by
    have := congrArg List.length hd
    rw [List.length_map, Array.length_toList] at this
    exact this
  have hrun := Lib.run_convert_string_bytes (P := Try.prog) w 9 23 5 (str l) Try.underlying9 Try.underlying23 Try.underlying5
  rw [hsz] at hrun
  refine ⟨_, _, hrun, grownCap_ge _ _ _ _, Lib.bytesWorld_size _ _ _, .inr ⟨_, 0, rfl, fun i hi => ?_⟩, ⟨rfl, rfl, rfl, by rw [Lib.bytesWorld_size]; omega, fun k hk => Lib.bytesWorld_at_old w _ _ k hk⟩⟩
  rw [Nat.zero_add, Lib.bytesWorld_cell w _ _ i (by rw [hsz]; exact hi), hd]
  unfold bt
  rw [List.getD, List.getD, List.getElem?_map, List.getElem?_eq_getElem hi]
  simp only [Option.map_some, Option.getD_some, UInt8.toNat_ofNat']
  rw [Nat.mod_eq_of_lt (l[i]).isLt]
end Go.Proofs.Ytgjcgnmomdanaaa

/- An entry that is told, out of what stands at its place. -/
namespace Go.Proofs.Ytgjcgnmomdanaaa
open Go.RowKit
set_option linter.unusedVariables false

/-- what is told of an entry: new bytes -/
def Told (w w' : World) (e : Ent) (r : Ending) : Prop := ∃ x c, r = .returned (.tuple #[.agg #[.int .i64 e.1, .int .i64 e.2.1, .slice x e.2.2.length c], .bool true]) ∧ Row w' x e.2.2 ∧ e.2.2.length ≤ c ∧ (x = none → c = 0) ∧ (∀ z, x = some z → w.heap.size ≤ z.block ∧ z.block < w'.heap.size)


end Go.Proofs.Ytgjcgnmomdanaaa

/- The entry at a place; entries from a place on. -/
namespace Go.Proofs.Ytgjcgnmomdanaaa
open Go.RowKit
set_option linter.unusedVariables false







end Go.Proofs.Ytgjcgnmomdanaaa

/- Entries from a place on. -/
namespace Go.Proofs.Ytgjcgnmomdanaaa
open Go.RowKit
set_option linter.unusedVariables false

theorem canE_fits {e : Ent} (h : canE e = true) : I64 e.1 ∧ I64 e.2.1 ∧ e.2.2.length ≤ 140737488351232 := by
  have h1 := canE_term h
  have h2 := canE_len h
  have h3 := canE_kind h
  unfold I64
  omega
theorem take_snoc {α : Type} (l : List α) (k : Nat) (h : k < l.length) : l.take (k + 1) = l.take k ++ [l[k]] := List.take_succ_eq_append_getElem h



end Go.Proofs.Ytgjcgnmomdanaaa
