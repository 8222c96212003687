/- extent, the document's: Right, Change. -/
import Derived.Test.YtmkacgdbmojomaaXEx2
import Derived.Test.YtmkacgdbmojomaaXEr1
import Derived.Test.YtmkacgdbmojomaaXDraw
import Derived.BigQuiet
import Derived.Deep.Upon
namespace Go.Proofs.Ytmkacgdbmojomaa
open Go.RowKit
set_option linter.unusedVariables false
set_option linter.unusedSimpArgs false
set_option maxRecDepth 8000

theorem can_take5 {n : Nat} {l : List (Int × List (BitVec 8))} {k : Nat} (hk : k < l.length) (h : canAll n (l.take k) = true) : canAll n (l.take (k + 1)) = canB n l[k].1 l[k].2.length := by
  rw [← List.take_append_getElem hk]
  unfold canAll at *
  rw [List.all_append, h]
  simp
theorem can_false5 {n : Nat} {l : List (Int × List (BitVec 8))} {k : Nat} (hk : k < l.length) (h : canB n l[k].1 l[k].2.length = false) : canAll n l = false := by
  unfold canAll
  rw [List.all_eq_false]
  exact ⟨l[k], List.getElem_mem hk, by rw [h]; simp⟩
theorem cat_later {w w' : World} {n p off i : Nat} {r : Int × List (BitVec 8)} (h : CAt w p off i r) (hb : Below w.heap.size w w') : CAt w' p off i r := by
  obtain ⟨x, c, h1, h2⟩ := h.data
  exact ⟨h.num, (World.cell?_of_block (w := w) (a := ⟨p, off + i * 2, none⟩) (hb.block p (cell_lt h.lba))).trans h.lba, ⟨x, c, (World.cell?_of_block (w := w) (a := ⟨p, off + i * 2 + 1, none⟩) (hb.block p (cell_lt h.lba))).trans h1, h2.later hb⟩, h.len⟩
theorem ri_not {w : World} {r lb : Nat} {V : List Nat} {m : Im} (h : (ri r lb V m).Ok w) {y o : Nat} {v : Value} (hc : w.cell? ⟨y, o, none⟩ = some v) (hv : ∀ a n c, v ≠ .slice a n c) : y ≠ lb := by
  intro e
  subst e
  obtain ⟨-, -, -, vs, hvl, h3, h4⟩ := h.holds
  rw [er_at h3 o] at hc
  have ho : o < m.n := by
    rcases Nat.lt_or_ge o vs.length with h | h
    · omega
    · rw [List.getElem?_eq_none h] at hc; cases hc
  obtain ⟨a, c, e, -⟩ := h4 o ho
  rw [e] at hc
  cases hc
  exact hv _ _ _ rfl
theorem cat_turned {W W' : World} {p off i : Nat} {rr : Int × List (BitVec 8)} {r lb : Nat} {V : List Nat} {m : Im} (h : CAt W p off i rr) (hok : (ri r lb V m).Ok W) (ht : Turned (· ∈ (ri r lb V m).W) W W') : CAt W' p off i rr := by
  have hp := ri_not hok h.lba (fun a n c e => by cases e)
  have hb : W'.heap[p]? = W.heap[p]? := ht.block p (cell_lt h.lba) (by simp [ri]; exact hp)
  obtain ⟨x, c, h1, h2⟩ := h.data
  refine ⟨h.num, (World.cell?_of_block (w := W) (a := ⟨p, off + i * 2, none⟩) hb).trans h.lba, ⟨x, c, (World.cell?_of_block (w := W) (a := ⟨p, off + i * 2 + 1, none⟩) hb).trans h1, ?_⟩, h.len⟩
  rcases h2 with e | ⟨y, o, rfl, hc⟩
  · exact .inl e
  · by_cases hl : rr.2.length = 0
    · exact .inl (List.eq_nil_of_length_eq_zero hl)
    · have h0 := hc 0 (by omega)
      exact Row.same (.inr ⟨y, o, rfl, hc⟩) (fun z hz => by cases hz; exact ht.block y (cell_lt h0) (by simp [ri]; exact ri_not hok h0 (fun a n c e => by cases e)))
theorem cargs_turned {W W' : World} {a : Option Addr} {l : List (Int × List (BitVec 8))} {r lb : Nat} {V : List Nat} {m : Im} (h : CArgs W a l) (hok : (ri r lb V m).Ok W) (ht : Turned (· ∈ (ri r lb V m).W) W W') : CArgs W' a l := by
  rcases h with h | ⟨p, off, rfl, h⟩
  · exact .inl h
  · exact .inr ⟨p, off, rfl, fun i hi => cat_turned (h i hi) hok ht⟩
theorem cargs_later {W W' : World} {a : Option Addr} {l : List (Int × List (BitVec 8))} (h : CArgs W a l) (hb : Below W.heap.size W W') : CArgs W' a l := by
  rcases h with h | ⟨p, off, rfl, h⟩
  · exact .inl h
  · exact .inr ⟨p, off, rfl, fun i hi => cat_later (n := 0) (h i hi) hb⟩
theorem st_app5 {ops : Array Oper} {o : Oper} {a : Act} {w w' : World} {v' : Value} {K : Act → World → Prop} {Q : Exit → Act → World → Prop} {E : Prop} (hg : o.guard = none) (s x : Operand) (t1 t2 : TypeId)
    (ho : o.op = .call { callee := .builtin .append, args := #[s, x], argTypes := #[t1, t2] }) (vs vx : Value) (hs : a.eval s = vs) (hx : a.eval x = vx) (hr : (Builtin.append_ #[t1, t2] o.type #[vs, vx]).run Try.prog w = .ok v' w') (next : K (a.put o.dst v') w') :
    if Region.wanted o (yielded ops a.tmps) = true then Oper.wp Try.prog o a w K Q else E := by
  have hw : Region.wanted o (yielded ops a.tmps) = true := by simp [Region.wanted, hg]
  rw [if_pos hw]
  unfold Oper.wp
  simp only [execOp, ho, resolve, invoke, builtin, Sem.run_bind, Sem.run_pure, Result.andThen_ok, List.map_toArray, List.map_cons, List.map_nil, hs, hx, hr]
  exact next
theorem add_at5 (b off j : Nat) : (⟨b, off, none⟩ : Addr).add j = ⟨b, off + j, none⟩ := by unfold Addr.add; split <;> simp_all
theorem und_u8s5 : Try.prog.underlying 31 = some (.slice 5) := by kernel_rfl
/-- bytes of its own out of nothing: append(nil, x...) -/
theorem app_data (w : World) (x : Option Addr) (c : Nat) (l : List (BitVec 8)) (hr : Row w x l) (hl : l.length ≤ 140737488355328) (ty : TypeId) :
    ∃ v' w', (Builtin.append_ #[31, 31] ty #[.slice none 0 0, .slice x l.length c]).run Try.prog w = .ok v' w' ∧ Own w' w.heap.size v' l ∧ w.grownBy w' none := by
  obtain ⟨i0, hi, hz0, hz1, hz2⟩ := info_parts info_u8
  by_cases h0 : l.length = 0
  · have hl0 : l = [] := List.eq_nil_of_length_eq_zero h0
    subst hl0
    refine ⟨.slice none 0 0, w, ?_, Own.nil _ _, ⟨rfl, rfl, rfl, Nat.le_refl _, fun _ _ _ => rfl⟩⟩
    refine run_append_nothing w _ _ _ 5 i0 und_u8s5 hi none 0 0 (Nat.le_refl _) _ ⟨.inl ⟨_, und_u8s5⟩, fun w' => by simp [Builtin.lenOf], ?_, ?_, by simp, by simp⟩
    · cases x <;> simp [Builtin.firstCells, loadCells, loadCellsFrom]
    · cases x <;> simp [Builtin.firstCells, loadCells, loadCellsFrom]
  · rcases hr with hr | ⟨b, off, rfl, hc⟩
    · rw [hr] at h0; exact absurd rfl h0
    · obtain ⟨v', w', h1, h2, h3, -⟩ := run_append_own (P := Try.prog) (w := w) w.heap.size 31 ty 5 i0 (.int .u8 0) 1 1 Try.underlying31 hi hz0 hz1 hz2 rfl (by decide) (.slice none 0 0) 0 (vals []) (Own.nil w w.heap.size) ⟨b, off, none⟩ l.length c (vals l) (by rw [vals_length]; omega) (by
        intro j u hj
        have hjl : j < l.length := by
          rcases Nat.lt_or_ge j l.length with h | h
          · exact h
          · rw [List.getElem?_eq_none (by rw [vals_length]; exact h)] at hj; cases hj
        rw [add_at5, hc j hjl, ← vals_at l j hjl, hj]) (vals_one l) (by unfold maxLen; omega) (by omega) (Nat.le_refl _)
      refine ⟨v', w', h1, ?_, h3⟩
      unfold Own
      simpa [vals] using h2
set_option maxHeartbeats 8000000 in
theorem riRight_any (r lb : Nat) (V : List Nat) (m : Im) (a : Option Addr) (len cap : Nat) (l : List (Int × List (BitVec 8))) (w : World) (h : (ri r lb V m).Ok w) (hw : m.Wf) (hl : l.length = len) (hlen : len ≤ 140737488355328) (hc : CArgs w a l) : Calls Try.prog 75 #[.pointer (some ⟨r, 0, none⟩), .slice a len cap] w fun e w' => e = .returned (.bool (canAll m.n l)) ∧ Below w.heap.size w w' := by
  obtain ⟨-, -, h2, -⟩ := h.holds
  have hm := hw.most
  subst hl
  have HH : Hid _ := And.intro h2 hc
  have hlI : (l.length : Int) ≤ 140737488355328 := by omega
  clear h hw hc h2
  go_enter Try.func75, Try.ntmps75
  go_wp2_with fail
  go_loopw [5] (fun p wr => ∃ k : Nat, k ≤ l.length ∧ p = .int .i64 k ∧ canAll m.n (l.take k) = true ∧ Below w.heap.size w wr) (fun p _ => l.length - (intOf p).toNat)
  case atStart => exact ⟨0, Nat.zero_le _, rfl, rfl, Below.refl _ _⟩
  case round =>
    obtain ⟨k, hk, rfl, hcan, hb⟩ := hrel
    by_cases hlt : k < l.length
    · have q1 : (k : Int) < (l.length : Int) := by omega
      obtain ⟨p, off, rfl, hC⟩ : ∃ p off, a = some ⟨p, off, none⟩ ∧ CAt wr p off k l[k] := by
        rcases HH.out.2 with e | ⟨p, off, e, hC⟩
        · rw [e] at hlt; simp at hlt
        · exact ⟨p, off, e, cat_later (n := 0) (hC k hlt) hb⟩
      have c9 := er_at (HH.out.1.laterB hb) 0
      simp only [List.getElem?_cons_zero] at c9
      have hnext := can_take5 (n := m.n) hlt hcan
      have hfalse := fun e => can_false5 (n := m.n) hlt e
      generalize l[k] = rr at *
      obtain ⟨x, c, d1, hrow⟩ := hC.data
      have d0 := hC.lba
      have hnum := hC.num
      have hlen2 := hC.len
      obtain ⟨ra, rl⟩ := rr
      simp only at d0 d1 hnum hlen2 hnext hfalse
      unfold I64 at hnum
      have HN : Hid _ := And.intro hnext (And.intro hfalse hb)
      clear hC hrow hb hnext hfalse hcan
      generalize rl.length = n2 at *
      by_cases p1 : ra < 0
      · have F : Hid _ := And.intro (HN.out.2.1 (by unfold canB spansB; simp; omega)) HN.out.2.2
        have e1 : decide (ra < 0) = true := decide_eq_true p1
        clear HN
        go_wp2_with fail
        go_quiet (fail)
        go_wp2
        go_ret
        exact ⟨by rw [F.out.1]; rfl, below_then F.out.2 (below_drewN _ _ _)⟩
      · have e1 : decide (ra < 0) = false := decide_eq_false p1
        by_cases p2 : (m.n : Int) ≤ ra
        · have F : Hid _ := And.intro (HN.out.2.1 (by unfold canB spansB; simp; omega)) HN.out.2.2
          have e2 : decide ((m.n : Int) ≤ ra) = true := decide_eq_true p2
          clear HN
          go_wp2_with fail
          go_quiet (fail)
          go_wp2
          go_ret
          exact ⟨by rw [F.out.1]; rfl, below_then F.out.2 (below_drewN _ _ _)⟩
        · have e2 : decide ((m.n : Int) ≤ ra) = false := decide_eq_false p2
          by_cases p3 : n2 = 0
          · have e3 : ((n2 : Int) != 0) = false := by simp; omega
            have F : Hid _ := And.intro (HN.out.1.trans (show canB m.n ra n2 = true by unfold canB; rw [show spansB m.n ra 1 = true by unfold spansB; rw [decide_eq_true_eq]; omega]; simp; omega)) HN.out.2.2
            clear HN
            go_wp2_with fail
            go_quiet (fail)
            go_wp2
            go_roundw
            case rel => exact ⟨k + 1, by omega, by first | rfl | go_num, F.out.1, below_then F.out.2 (below_drewN _ _ _)⟩
            case measure => simp [intOf]; omega
          · have e3 : ((n2 : Int) != 0) = true := by simp; omega
            by_cases p4 : n2 = 64
            · have e4 : ((n2 : Int) != 64) = false := by simp; omega
              have F : Hid _ := And.intro (HN.out.1.trans (show canB m.n ra n2 = true by unfold canB; rw [show spansB m.n ra 1 = true by unfold spansB; rw [decide_eq_true_eq]; omega]; simp; omega)) HN.out.2.2
              clear HN
              go_wp2_with fail
              go_quiet (fail)
              go_wp2
              go_roundw
              case rel => exact ⟨k + 1, by omega, by first | rfl | go_num, F.out.1, below_then F.out.2 (below_drewN _ _ _)⟩
              case measure => simp [intOf]; omega
            · have e4 : ((n2 : Int) != 64) = true := by simp; omega
              have F : Hid _ := And.intro (HN.out.2.1 (by unfold canB spansB; simp; omega)) HN.out.2.2
              clear HN
              go_wp2_with fail
              go_quiet (fail)
              go_wp2
              go_ret
              exact ⟨by rw [F.out.1]; rfl, below_then F.out.2 (below_drewN _ _ _)⟩
    · obtain rfl : k = l.length := by omega
      have q1 : ¬ ((l.length : Int) < (l.length : Int)) := by omega
      rw [List.take_length] at hcan
      have F : Hid _ := And.intro hcan hb
      clear hcan hb hk hlt
      go_wp2
      go_ret
      exact ⟨by rw [F.out.1]; rfl, F.out.2⟩
set_option maxHeartbeats 16000000 in
theorem riChange_any (r lb : Nat) (V : List Nat) (m : Im) (a : Option Addr) (len cap : Nat) (l : List (Int × List (BitVec 8))) (w : World) (h : (ri r lb V m).Ok w) (hw : m.Wf) (hl : l.length = len) (hlen : len ≤ 140737488355328) (hc : CArgs w a l) : Calls Try.prog 44 #[.pointer (some ⟨r, 0, none⟩), .slice a len cap] w fun e w' => (canAll m.n l = true ∧ e = .returned (.int .i64 0) ∧ ∃ V', Step w w' (ri r lb V m) (ri r lb V' (chAll m l))) ∨ (canAll m.n l = false ∧ e = .returned (.int .i64 1) ∧ Below w.heap.size w w') := by
  have HR : Hid _ := riRight_any r lb V m a len cap l w h hw hl hlen hc
  have hm := hw.most
  subst hl
  have HH : Hid _ := And.intro h (And.intro hw hc)
  have hlI : (l.length : Int) ≤ 140737488355328 := by omega
  clear h hw hc
  go_enter Try.func44, Try.ntmps44
  go_wp2_with fail
  refine (Calls.mono HR.out) ?_
  rintro e w1 ⟨rfl, b1⟩
  have H1 : Hid _ := And.intro (Step.quiet HH.out.1 b1) (cargs_later HH.out.2.2 b1)
  have B1 : Hid _ := b1
  clear b1 HR
  cases hcan : canAll m.n l with
  | false =>
    have HC : Hid _ := hcan
    clear hcan
    go_wp2
    go_ret
    exact .inr ⟨HC.out, rfl, B1.out⟩
  | true =>
    have HC : Hid _ := hcan
    clear hcan
    go_wp2_with fail
    go_loopw [5] (fun p wr => ∃ (k : Nat) (V' : List Nat), k ≤ l.length ∧ p = .int .i64 k ∧ Step w wr (ri r lb V m) (ri r lb V' (chAll m (l.take k))) ∧ CArgs wr a l) (fun p _ => l.length - (intOf p).toNat)
    case atStart => exact ⟨0, V, Nat.zero_le _, rfl, H1.out.1, H1.out.2⟩
    case round =>
      obtain ⟨k, V', hk, rfl, hst, hcar⟩ := hrel
      by_cases hlt : k < l.length
      · have q1 : (k : Int) < (l.length : Int) := by omega
        obtain ⟨p, off, rfl, hC⟩ : ∃ p off, a = some ⟨p, off, none⟩ ∧ CAt wr p off k l[k] := by
          rcases hcar with e | ⟨p, off, e, hC⟩
          · rw [e] at hlt; simp at hlt
          · exact ⟨p, off, e, hC k hlt⟩
        have hcb : canB m.n l[k].1 l[k].2.length = true := List.all_eq_true.1 HC.out _ (List.getElem_mem hlt)
        obtain ⟨q, hq, hqn, -⟩ := canB_yes hcb
        have htk : chAll m (l.take (k + 1)) = chI (chAll m (l.take k)) l[k].1.toNat l[k].2 := by rw [← List.take_append_getElem hlt, chAll_snoc]
        generalize l[k] = rr at *
        obtain ⟨ra, rl⟩ := rr
        simp only at hq htk
        subst hq
        rw [Int.toNat_natCast] at htk
        obtain ⟨x, c, d1, hrow⟩ := hC.data
        have d0 := hC.lba
        have hlen2 := hC.len
        simp only at d0 d1 hrow hlen2
        obtain ⟨-, -, h2, vs, hvl, h3, -⟩ := hst.ok.holds
        have hn : (chAll m (l.take k)).n = m.n := chAll_n m _
        rw [hn] at h2 hvl
        have c9 := er_at h2 0
        simp only [List.getElem?_cons_zero] at c9
        obtain ⟨u0, hu0⟩ : ∃ u0, vs[q]? = some u0 := ⟨_, List.getElem?_eq_getElem (by omega)⟩
        have hrowd : Row wr.drew x rl := hrow
        obtain ⟨v2, w2, hrun, hO, hg⟩ := app_data wr.drew x c rl hrowd hlen2 31
        have hO2 : Own w2 wr.heap.size v2 rl := hO
        have hb2 : Below wr.heap.size wr w2 := ((Below.refl _ _).drew).grown hg (Nat.le_refl _) (fun k hk => by cases hk)
        have hput := hst.trans (ri_put hst.ok hb2 hO2 (i := q) (by rw [hn]; exact hqn))
        rw [show putI (chAll m (l.take k)) q (if rl = [] then none else some rl) = chAll m (l.take (k + 1)) from htk.symm] at hput
        have hcar2 := cargs_turned (l := l) HH.out.2.2 HH.out.1 hput.turned
        have c92 := er_at (h2.laterB hb2) 0
        simp only [List.getElem?_cons_zero] at c92
        have hC2 := cat_later (n := 0) hC hb2
        have d02 := hC2.lba
        have d12 : w2.cell? ⟨p, off + k * 2 + 1, none⟩ = some (.slice x rl.length c) := (World.cell?_of_block (w := wr) (a := ⟨p, off + k * 2 + 1, none⟩) (hb2.block p (cell_lt hC.lba))).trans d1
        simp only at d02
        have f3 := er_fz (h3.laterB hb2) q
        have c3 := er_at (h3.laterB hb2) q
        rw [hu0] at c3
        obtain ⟨a2, c2, e2, -, -, -, -, -⟩ := hO2.open
        subst e2
        have HA : Hid _ := And.intro hrun (show w2.cell? ⟨r, 0, none⟩ = some (.slice (some ⟨lb, 0, none⟩) m.n m.n) ∧ w2.cell? ⟨p, off + k * 2, none⟩ = some (.int .i64 (q : Int)) ∧ w2.cell? ⟨p, off + k * 2 + 1, none⟩ = some (.slice x rl.length c) ∧ Below wr.heap.size wr w2 from ⟨c92, d02, d12, hb2⟩)
        have F : Hid _ := And.intro hput (And.intro hcar2 hlt)
        have qq1 : (0 : Int) ≤ (q : Int) := by omega
        have qq2 : (q : Int) < (m.n : Int) := by omega
        clear hst hcar hC hcb htk hrow hrowd h2 h3 hvl hn hu0 hrun hO hO2 hb2 hg hput hcar2 c92 hC2 d02 d12
        go_wp2_with fail
        refine e_begin (S := fun W => W.cell? ⟨r, 0, none⟩ = some (.slice (some ⟨lb, 0, none⟩) m.n m.n) ∧ W.cell? ⟨p, off + k * 2, none⟩ = some (.int .i64 (q : Int)) ∧ W.cell? ⟨p, off + k * 2 + 1, none⟩ = some (.slice x rl.length c) ∧ Below wr.heap.size wr W) 17 (by kernel_rfl) (⟨c9, d0, d1, (Below.refl _ _).drew⟩) (fun hS => ?_)
        refine e_take (i := 0) (v := ?_) [1, 2, 3, 16, 17] rfl (by kernel_rfl) (by kernel_rfl) (by kernel_rfl) (by kernel_rfl) (by exact fun _ _ _ h => h) (by rfl) ?_ hS ?_
        rotate_left
        · ((intro w hSw; (try dsimp only at hSw); go_simp) <;> with_reducible rfl)
        (try simp only [Act.put, List.setIfInBounds_toArray, List.set_cons_zero, List.set_cons_succ])
        refine e_take (i := 1) (v := ?_) [2, 3, 16, 17] rfl (by kernel_rfl) (by kernel_rfl) (by kernel_rfl) (by kernel_rfl) (by exact fun _ _ _ h => h) (by rfl) ?_ hS ?_
        rotate_left
        · ((intro w hSw; (try dsimp only at hSw); go_simp) <;> with_reducible rfl)
        (try simp only [Act.put, List.setIfInBounds_toArray, List.set_cons_zero, List.set_cons_succ])
        refine e_take (i := 2) (v := ?_) [3, 16, 17] rfl (by kernel_rfl) (by kernel_rfl) (by kernel_rfl) (by kernel_rfl) (by exact fun _ _ _ h => h) (by rfl) ?_ hS ?_
        rotate_left
        · ((intro w hSw; (try dsimp only at hSw); go_simp) <;> with_reducible rfl)
        (try simp only [Act.put, List.setIfInBounds_toArray, List.set_cons_zero, List.set_cons_succ])
        refine e_take (i := 3) (v := ?_) [16, 17] rfl (by kernel_rfl) (by kernel_rfl) (by kernel_rfl) (by kernel_rfl) (by exact fun _ _ _ h => h) (by rfl) ?_ hS ?_
        rotate_left
        · ((intro w hSw; (try dsimp only at hSw); go_simp) <;> with_reducible rfl)
        (try simp only [Act.put, List.setIfInBounds_toArray, List.set_cons_zero, List.set_cons_succ])
        refine e_take (i := 4) (v := ?_) [6, 7, 8, 16, 17] rfl (by kernel_rfl) (by kernel_rfl) (by kernel_rfl) (by kernel_rfl) (by exact fun _ _ _ h => h) (by rfl) ?_ hS ?_
        rotate_left
        · ((intro w hSw; (try dsimp only at hSw); go_simp) <;> with_reducible rfl)
        (try simp only [Act.put, List.setIfInBounds_toArray, List.set_cons_zero, List.set_cons_succ])
        refine e_take (i := 5) (v := ?_) [6, 7, 8, 16, 17] rfl (by kernel_rfl) (by kernel_rfl) (by kernel_rfl) (by kernel_rfl) (by exact fun _ _ _ h => h) (by rfl) ?_ hS ?_
        rotate_left
        · ((intro w hSw; (try dsimp only at hSw); go_simp) <;> with_reducible rfl)
        (try simp only [Act.put, List.setIfInBounds_toArray, List.set_cons_zero, List.set_cons_succ])
        refine e_take (i := 6) (v := ?_) [7, 8, 16, 17] rfl (by kernel_rfl) (by kernel_rfl) (by kernel_rfl) (by kernel_rfl) (by exact fun _ _ _ h => h) (by rfl) ?_ hS ?_
        rotate_left
        · ((intro w hSw; (try dsimp only at hSw); go_simp) <;> with_reducible rfl)
        (try simp only [Act.put, List.setIfInBounds_toArray, List.set_cons_zero, List.set_cons_succ])
        refine e_take (i := 7) (v := ?_) [8, 16, 17] rfl (by kernel_rfl) (by kernel_rfl) (by kernel_rfl) (by kernel_rfl) (by exact fun _ _ _ h => h) (by rfl) ?_ hS ?_
        rotate_left
        · ((intro w hSw; (try dsimp only at hSw); go_simp) <;> with_reducible rfl)
        (try simp only [Act.put, List.setIfInBounds_toArray, List.set_cons_zero, List.set_cons_succ])
        refine e_take (i := 8) (v := ?_) [16, 17] rfl (by kernel_rfl) (by kernel_rfl) (by kernel_rfl) (by kernel_rfl) (by exact fun _ _ _ h => h) (by rfl) ?_ hS ?_
        rotate_left
        · ((intro w hSw; (try dsimp only at hSw); go_simp) <;> with_reducible rfl)
        (try simp only [Act.put, List.setIfInBounds_toArray, List.set_cons_zero, List.set_cons_succ])
        refine e_take (i := 9) (v := ?_) [15, 17] rfl (by kernel_rfl) (by kernel_rfl) (by kernel_rfl) (by kernel_rfl) (by exact fun _ _ _ h => h) (by rfl) ?_ hS ?_
        rotate_left
        · ((intro w hSw; (try dsimp only at hSw); go_simp) <;> with_reducible rfl)
        (try simp only [Act.put, List.setIfInBounds_toArray, List.set_cons_zero, List.set_cons_succ])
        refine e_take (i := 10) (v := ?_) [12, 13, 14, 15, 17] rfl (by kernel_rfl) (by kernel_rfl) (by kernel_rfl) (by kernel_rfl) (by exact fun _ _ _ h => h) (by rfl) ?_ hS ?_
        rotate_left
        · ((intro w hSw; (try dsimp only at hSw); go_simp) <;> with_reducible rfl)
        (try simp only [Act.put, List.setIfInBounds_toArray, List.set_cons_zero, List.set_cons_succ])
        refine e_take (i := 11) (v := ?_) [12, 13, 14, 15, 17] rfl (by kernel_rfl) (by kernel_rfl) (by kernel_rfl) (by kernel_rfl) (by exact fun _ _ _ h => h) (by rfl) ?_ hS ?_
        rotate_left
        · ((intro w hSw; (try dsimp only at hSw); go_simp) <;> with_reducible rfl)
        (try simp only [Act.put, List.setIfInBounds_toArray, List.set_cons_zero, List.set_cons_succ])
        refine e_take (i := 12) (v := ?_) [13, 14, 15, 17] rfl (by kernel_rfl) (by kernel_rfl) (by kernel_rfl) (by kernel_rfl) (by exact fun _ _ _ h => h) (by rfl) ?_ hS ?_
        rotate_left
        · ((intro w hSw; (try dsimp only at hSw); go_simp) <;> with_reducible rfl)
        (try simp only [Act.put, List.setIfInBounds_toArray, List.set_cons_zero, List.set_cons_succ])
        refine e_take (i := 13) (v := ?_) [14, 15, 17] rfl (by kernel_rfl) (by kernel_rfl) (by kernel_rfl) (by kernel_rfl) (by exact fun _ _ _ h => h) (by rfl) ?_ hS ?_
        rotate_left
        · ((intro w hSw; (try dsimp only at hSw); go_simp) <;> with_reducible rfl)
        (try simp only [Act.put, List.setIfInBounds_toArray, List.set_cons_zero, List.set_cons_succ])
        refine e_take (i := 14) (v := ?_) [15, 17] rfl (by kernel_rfl) (by kernel_rfl) (by kernel_rfl) (by kernel_rfl) (by exact fun _ _ _ h => h) (by rfl) ?_ hS ?_
        rotate_left
        · ((intro w hSw; (try dsimp only at hSw); go_simp) <;> with_reducible rfl)
        (try simp only [Act.put, List.setIfInBounds_toArray, List.set_cons_zero, List.set_cons_succ])
        refine e_one (i := 15) rfl (by kernel_rfl) (fun K hK => ?_)
        refine st_app5 rfl _ _ 31 31 rfl _ _ rfl rfl HA.out.1 ?_
        refine hK.out _ _ HA.out.2 (fun _ => ?_)
        clear hK K hS
        have hS := HA.out.2
        refine e_take (i := 16) (v := ?_) [17] rfl (by kernel_rfl) (by kernel_rfl) (by kernel_rfl) (by kernel_rfl) (by exact fun _ _ _ h => h) (by rfl) ?_ hS ?_
        rotate_left
        · ((intro w hSw; (try dsimp only at hSw); go_simp) <;> with_reducible rfl)
        (try simp only [Act.put, List.setIfInBounds_toArray, List.set_cons_zero, List.set_cons_succ])
        clear hS
        refine e_last (z := 17) rfl (by kernel_rfl) (fun K hK => ?_)
        go_simp
        refine hK.out _ _ ?_
        clear hK K
        refine e_done (by kernel_rfl) ?_ _
        go_wp2
        go_roundw
        case rel => exact ⟨k + 1, _, by omega, by first | rfl | go_num, F.out.1, F.out.2.1⟩
        case measure => have := F.out.2.2; simp [intOf]; omega
      · obtain rfl : k = l.length := by omega
        have q1 : ¬ ((l.length : Int) < (l.length : Int)) := by omega
        rw [List.take_length] at hst
        have F : Hid _ := hst
        clear hst hcar hk hlt
        go_wp2
        go_ret
        exact .inl ⟨HC.out, rfl, _, F.out⟩
end Go.Proofs.Ytmkacgdbmojomaa

/- extent, the document's: SameChanges, LentChanges. -/
namespace Go.Proofs.Ytmkacgdbmojomaa
open Go.RowKit
set_option linter.unusedVariables false
set_option linter.unusedSimpArgs false
set_option maxRecDepth 8000

set_option maxHeartbeats 16000000 in
theorem same05_yes (a1 a2 : Option Addr) (len c1 c2 : Nat) (l : List (Int × List (BitVec 8))) (w : World) (hl : l.length = len) (hlen : len ≤ 140737488355328) (h1 : CArgs w a1 l) (h2 : CArgs w a2 l) : Calls Try.prog 25 #[.slice a1 len c1, .slice a2 len c2] w fun e w' => e = .returned (.bool true) ∧ Below w.heap.size w w' := by
  subst hl
  have HH : Hid _ := And.intro h1 h2
  have hlI : (l.length : Int) ≤ 140737488355328 := by omega
  clear h1 h2
  go_enter Try.func25, Try.ntmps25
  go_wp2_with fail
  go_loopw [5] (fun p wr => ∃ k : Nat, k ≤ l.length ∧ p = .int .i64 k ∧ Below w.heap.size w wr) (fun p _ => l.length - (intOf p).toNat)
  case atStart => exact ⟨0, Nat.zero_le _, rfl, Below.refl _ _⟩
  case round =>
    obtain ⟨k, hk, rfl, hb⟩ := hrel
    by_cases hlt : k < l.length
    · have q1 : (k : Int) < (l.length : Int) := by omega
      obtain ⟨p1, o1, rfl, hC1⟩ : ∃ p off, a1 = some ⟨p, off, none⟩ ∧ CAt wr p off k l[k] := by
        rcases HH.out.1 with e | ⟨p, off, e, hC⟩
        · rw [e] at hlt; simp at hlt
        · exact ⟨p, off, e, cat_later (n := 0) (hC k hlt) hb⟩
      obtain ⟨p2, o2, rfl, hC2⟩ : ∃ p off, a2 = some ⟨p, off, none⟩ ∧ CAt wr p off k l[k] := by
        rcases HH.out.2 with e | ⟨p, off, e, hC⟩
        · rw [e] at hlt; simp at hlt
        · exact ⟨p, off, e, cat_later (n := 0) (hC k hlt) hb⟩
      generalize l[k] = rr at *
      obtain ⟨ra, rl⟩ := rr
      obtain ⟨x1, d1, e1, r1⟩ := hC1.data
      obtain ⟨x2, d2, e2, r2⟩ := hC2.data
      have e3 := hC1.lba
      have e4 := hC2.lba
      simp only at e1 e2 e3 e4 r1 r2
      have s1 : Row wr.drew x1 rl := r1
      have s2 : Row wr.drew x2 rl := r2
      have g1 := s1.str rl.length d1 rfl
      have g2 := s2.str rl.length d2 rfl
      generalize str rl = st at *
      generalize rl.length = n2 at *
      have HA : Hid _ := And.intro (show wr.drew.cell? ⟨p1, o1 + k * 2, none⟩ = some (.int .i64 ra) ∧ wr.drew.cell? ⟨p2, o2 + k * 2, none⟩ = some (.int .i64 ra) ∧ wr.drew.cell? ⟨p1, o1 + k * 2 + 1, none⟩ = some (.slice x1 n2 d1) ∧ wr.drew.cell? ⟨p2, o2 + k * 2 + 1, none⟩ = some (.slice x2 n2 d2) ∧ (convert 31 9 (.slice x1 n2 d1)).run Try.prog wr.drew = .ok (.string st) wr.drew ∧ (convert 31 9 (.slice x2 n2 d2)).run Try.prog wr.drew = .ok (.string st) wr.drew from ⟨e3, e4, e1, e2, g1, g2⟩) hb
      clear hC1 hC2 e1 e2 e3 e4 r1 r2 s1 s2 g1 g2 hb
      go_wp2_with fail
      refine e_begin (S := fun W => W.cell? ⟨p1, o1 + k * 2, none⟩ = some (.int .i64 ra) ∧ W.cell? ⟨p2, o2 + k * 2, none⟩ = some (.int .i64 ra) ∧ W.cell? ⟨p1, o1 + k * 2 + 1, none⟩ = some (.slice x1 n2 d1) ∧ W.cell? ⟨p2, o2 + k * 2 + 1, none⟩ = some (.slice x2 n2 d2) ∧ (convert 31 9 (.slice x1 n2 d1)).run Try.prog W = .ok (.string st) W ∧ (convert 31 9 (.slice x2 n2 d2)).run Try.prog W = .ok (.string st) W) 25 (by kernel_rfl) (HA.out.1) (fun hS => ?_)
      refine e_take (i := 0) (v := ?_) [2, 3, 4, 10, 11, 25] rfl (by kernel_rfl) (by kernel_rfl) (by kernel_rfl) (by kernel_rfl) (by exact fun _ _ _ h => h) (by rfl) ?_ hS ?_
      rotate_left
      · ((intro w hSw; (try dsimp only at hSw); go_simp) <;> with_reducible rfl)
      (try simp only [Act.put, List.setIfInBounds_toArray, List.set_cons_zero, List.set_cons_succ])
      refine e_take (i := 1) (v := ?_) [2, 3, 4, 10, 11, 25] rfl (by kernel_rfl) (by kernel_rfl) (by kernel_rfl) (by kernel_rfl) (by exact fun _ _ _ h => h) (by rfl) ?_ hS ?_
      rotate_left
      · ((intro w hSw; (try dsimp only at hSw); go_simp) <;> with_reducible rfl)
      (try simp only [Act.put, List.setIfInBounds_toArray, List.set_cons_zero, List.set_cons_succ])
      refine e_take (i := 2) (v := ?_) [3, 4, 10, 11, 25] rfl (by kernel_rfl) (by kernel_rfl) (by kernel_rfl) (by kernel_rfl) (by exact fun _ _ _ h => h) (by rfl) ?_ hS ?_
      rotate_left
      · ((intro w hSw; (try dsimp only at hSw); go_simp) <;> with_reducible rfl)
      (try simp only [Act.put, List.setIfInBounds_toArray, List.set_cons_zero, List.set_cons_succ])
      refine e_take (i := 3) (v := ?_) [4, 10, 11, 25] rfl (by kernel_rfl) (by kernel_rfl) (by kernel_rfl) (by kernel_rfl) (by exact fun _ _ _ h => h) (by rfl) ?_ hS ?_
      rotate_left
      · ((intro w hSw; (try dsimp only at hSw); go_simp) <;> with_reducible rfl)
      (try simp only [Act.put, List.setIfInBounds_toArray, List.set_cons_zero, List.set_cons_succ])
      refine e_take (i := 4) (v := ?_) [10, 11, 25] rfl (by kernel_rfl) (by kernel_rfl) (by kernel_rfl) (by kernel_rfl) (by exact fun _ _ _ h => h) (by rfl) ?_ hS ?_
      rotate_left
      · ((intro w hSw; (try dsimp only at hSw); go_simp) <;> with_reducible rfl)
      (try simp only [Act.put, List.setIfInBounds_toArray, List.set_cons_zero, List.set_cons_succ])
      refine e_take (i := 5) (v := ?_) [7, 8, 9, 10, 11, 25] rfl (by kernel_rfl) (by kernel_rfl) (by kernel_rfl) (by kernel_rfl) (by exact fun _ _ _ h => h) (by rfl) ?_ hS ?_
      rotate_left
      · ((intro w hSw; (try dsimp only at hSw); go_simp) <;> with_reducible rfl)
      (try simp only [Act.put, List.setIfInBounds_toArray, List.set_cons_zero, List.set_cons_succ])
      refine e_take (i := 6) (v := ?_) [7, 8, 9, 10, 11, 25] rfl (by kernel_rfl) (by kernel_rfl) (by kernel_rfl) (by kernel_rfl) (by exact fun _ _ _ h => h) (by rfl) ?_ hS ?_
      rotate_left
      · ((intro w hSw; (try dsimp only at hSw); go_simp) <;> with_reducible rfl)
      (try simp only [Act.put, List.setIfInBounds_toArray, List.set_cons_zero, List.set_cons_succ])
      refine e_take (i := 7) (v := ?_) [8, 9, 10, 11, 25] rfl (by kernel_rfl) (by kernel_rfl) (by kernel_rfl) (by kernel_rfl) (by exact fun _ _ _ h => h) (by rfl) ?_ hS ?_
      rotate_left
      · ((intro w hSw; (try dsimp only at hSw); go_simp) <;> with_reducible rfl)
      (try simp only [Act.put, List.setIfInBounds_toArray, List.set_cons_zero, List.set_cons_succ])
      refine e_take (i := 8) (v := ?_) [9, 10, 11, 25] rfl (by kernel_rfl) (by kernel_rfl) (by kernel_rfl) (by kernel_rfl) (by exact fun _ _ _ h => h) (by rfl) ?_ hS ?_
      rotate_left
      · ((intro w hSw; (try dsimp only at hSw); go_simp) <;> with_reducible rfl)
      (try simp only [Act.put, List.setIfInBounds_toArray, List.set_cons_zero, List.set_cons_succ])
      refine e_take (i := 9) (v := ?_) [10, 11, 25] rfl (by kernel_rfl) (by kernel_rfl) (by kernel_rfl) (by kernel_rfl) (by exact fun _ _ _ h => h) (by rfl) ?_ hS ?_
      rotate_left
      · ((intro w hSw; (try dsimp only at hSw); go_simp) <;> with_reducible rfl)
      (try simp only [Act.put, List.setIfInBounds_toArray, List.set_cons_zero, List.set_cons_succ])
      refine e_take (i := 10) (v := ?_) [11, 25] rfl (by kernel_rfl) (by kernel_rfl) (by kernel_rfl) (by kernel_rfl) (by exact fun _ _ _ h => h) (by rfl) ?_ hS ?_
      rotate_left
      · ((intro w hSw; (try dsimp only at hSw); go_simp) <;> with_reducible rfl)
      (try simp only [Act.put, List.setIfInBounds_toArray, List.set_cons_zero, List.set_cons_succ])
      refine e_take (i := 11) (v := ?_) [25] rfl (by kernel_rfl) (by kernel_rfl) (by kernel_rfl) (by kernel_rfl) (by exact fun _ _ _ h => h) (by rfl) ?_ hS ?_
      rotate_left
      · ((intro w hSw; (try dsimp only at hSw); go_simp) <;> with_reducible rfl)
      (try simp only [Act.put, List.setIfInBounds_toArray, List.set_cons_zero, List.set_cons_succ])
      refine e_take (i := 12) (v := ?_) [14, 15, 16, 17, 24, 25] rfl (by kernel_rfl) (by kernel_rfl) (by kernel_rfl) (by kernel_rfl) (by exact fun _ _ _ h => h) (by rfl) ?_ hS ?_
      rotate_left
      · ((intro w hSw; (try dsimp only at hSw); go_simp) <;> with_reducible rfl)
      (try simp only [Act.put, List.setIfInBounds_toArray, List.set_cons_zero, List.set_cons_succ])
      refine e_take (i := 13) (v := ?_) [14, 15, 16, 17, 24, 25] rfl (by kernel_rfl) (by kernel_rfl) (by kernel_rfl) (by kernel_rfl) (by exact fun _ _ _ h => h) (by rfl) ?_ hS ?_
      rotate_left
      · ((intro w hSw; (try dsimp only at hSw); go_simp) <;> with_reducible rfl)
      (try simp only [Act.put, List.setIfInBounds_toArray, List.set_cons_zero, List.set_cons_succ])
      refine e_take (i := 14) (v := ?_) [15, 16, 17, 24, 25] rfl (by kernel_rfl) (by kernel_rfl) (by kernel_rfl) (by kernel_rfl) (by exact fun _ _ _ h => h) (by rfl) ?_ hS ?_
      rotate_left
      · ((intro w hSw; (try dsimp only at hSw); go_simp) <;> with_reducible rfl)
      (try simp only [Act.put, List.setIfInBounds_toArray, List.set_cons_zero, List.set_cons_succ])
      refine e_take (i := 15) (v := ?_) [16, 17, 24, 25] rfl (by kernel_rfl) (by kernel_rfl) (by kernel_rfl) (by kernel_rfl) (by exact fun _ _ _ h => h) (by rfl) ?_ hS ?_
      rotate_left
      · ((intro w hSw; (try dsimp only at hSw); go_simp) <;> with_reducible rfl)
      (try simp only [Act.put, List.setIfInBounds_toArray, List.set_cons_zero, List.set_cons_succ])
      refine e_take (i := 16) (v := ?_) [17, 24, 25] rfl (by kernel_rfl) (by kernel_rfl) (by kernel_rfl) (by kernel_rfl) (by exact fun _ _ _ h => h) (by rfl) ?_ hS ?_
      rotate_left
      · ((intro w hSw; (try dsimp only at hSw); go_simp) <;> with_reducible rfl)
      (try simp only [Act.put, List.setIfInBounds_toArray, List.set_cons_zero, List.set_cons_succ])
      refine e_take (i := 17) (v := ?_) [24, 25] rfl (by kernel_rfl) (by kernel_rfl) (by kernel_rfl) (by kernel_rfl) (by exact fun _ _ _ h => h) (by rfl) ?_ hS ?_
      rotate_left
      · ((intro w hSw; (try dsimp only at hSw); go_simp) <;> with_reducible rfl)
      (try simp only [Act.put, List.setIfInBounds_toArray, List.set_cons_zero, List.set_cons_succ])
      refine e_take (i := 18) (v := ?_) [20, 21, 22, 23, 24, 25] rfl (by kernel_rfl) (by kernel_rfl) (by kernel_rfl) (by kernel_rfl) (by exact fun _ _ _ h => h) (by rfl) ?_ hS ?_
      rotate_left
      · ((intro w hSw; (try dsimp only at hSw); go_simp) <;> with_reducible rfl)
      (try simp only [Act.put, List.setIfInBounds_toArray, List.set_cons_zero, List.set_cons_succ])
      refine e_take (i := 19) (v := ?_) [20, 21, 22, 23, 24, 25] rfl (by kernel_rfl) (by kernel_rfl) (by kernel_rfl) (by kernel_rfl) (by exact fun _ _ _ h => h) (by rfl) ?_ hS ?_
      rotate_left
      · ((intro w hSw; (try dsimp only at hSw); go_simp) <;> with_reducible rfl)
      (try simp only [Act.put, List.setIfInBounds_toArray, List.set_cons_zero, List.set_cons_succ])
      refine e_take (i := 20) (v := ?_) [21, 22, 23, 24, 25] rfl (by kernel_rfl) (by kernel_rfl) (by kernel_rfl) (by kernel_rfl) (by exact fun _ _ _ h => h) (by rfl) ?_ hS ?_
      rotate_left
      · ((intro w hSw; (try dsimp only at hSw); go_simp) <;> with_reducible rfl)
      (try simp only [Act.put, List.setIfInBounds_toArray, List.set_cons_zero, List.set_cons_succ])
      refine e_take (i := 21) (v := ?_) [22, 23, 24, 25] rfl (by kernel_rfl) (by kernel_rfl) (by kernel_rfl) (by kernel_rfl) (by exact fun _ _ _ h => h) (by rfl) ?_ hS ?_
      rotate_left
      · ((intro w hSw; (try dsimp only at hSw); go_simp) <;> with_reducible rfl)
      (try simp only [Act.put, List.setIfInBounds_toArray, List.set_cons_zero, List.set_cons_succ])
      refine e_take (i := 22) (v := ?_) [23, 24, 25] rfl (by kernel_rfl) (by kernel_rfl) (by kernel_rfl) (by kernel_rfl) (by exact fun _ _ _ h => h) (by rfl) ?_ hS ?_
      rotate_left
      · ((intro w hSw; (try dsimp only at hSw); go_simp) <;> with_reducible rfl)
      (try simp only [Act.put, List.setIfInBounds_toArray, List.set_cons_zero, List.set_cons_succ])
      refine e_take (i := 23) (v := ?_) [24, 25] rfl (by kernel_rfl) (by kernel_rfl) (by kernel_rfl) (by kernel_rfl) (by exact fun _ _ _ h => h) (by rfl) ?_ hS ?_
      rotate_left
      · ((intro w hSw; (try dsimp only at hSw); go_simp) <;> with_reducible rfl)
      (try simp only [Act.put, List.setIfInBounds_toArray, List.set_cons_zero, List.set_cons_succ])
      refine e_take (i := 24) (v := ?_) [25] rfl (by kernel_rfl) (by kernel_rfl) (by kernel_rfl) (by kernel_rfl) (by exact fun _ _ _ h => h) (by rfl) ?_ hS ?_
      rotate_left
      · ((intro w hSw; (try dsimp only at hSw); go_simp) <;> with_reducible rfl)
      (try simp only [Act.put, List.setIfInBounds_toArray, List.set_cons_zero, List.set_cons_succ])
      clear hS
      refine e_last (z := 25) rfl (by kernel_rfl) (fun K hK => ?_)
      go_simp
      refine hK.out _ _ ?_
      clear hK K
      refine e_done (by kernel_rfl) ?_ _
      go_wp2
      go_roundw
      case rel => exact ⟨k + 1, by omega, by first | rfl | go_num, below_then HA.out.2 (Below.refl _ _).drew⟩
      case measure => simp [intOf]; omega
    · obtain rfl : k = l.length := by omega
      have q1 : ¬ ((l.length : Int) < (l.length : Int)) := by omega
      have F : Hid _ := hb
      clear hb hk hlt
      go_wp2
      go_ret
      exact ⟨rfl, F.out⟩
end Go.Proofs.Ytmkacgdbmojomaa

/- extent: a slice of changes of the call's own, each with bytes of its own. -/
namespace Go.Proofs.Ytmkacgdbmojomaa
open Go.RowKit
set_option linter.unusedVariables false
set_option linter.unusedSimpArgs false
set_option maxRecDepth 8000

/-- a change, and the value of its bytes -/
abbrev Tc := (Int × List (BitVec 8)) × Value
def csC (T : List Tc) : List Value := T.flatMap fun p => [.int .i64 p.1.1, p.2]
theorem csC_snoc (T : List Tc) (p : Tc) : csC (T ++ [p]) = csC T ++ [.int .i64 p.1.1, p.2] := by unfold csC; rw [List.flatMap_append]; simp
theorem csC_at (T : List Tc) (i : Nat) (hi : i < T.length) : (csC T)[i * 2]? = some (.int .i64 T[i].1.1) ∧ (csC T)[i * 2 + 1]? = some T[i].2 := by
  induction T generalizing i with
  | nil => simp at hi
  | cons p T ih =>
    have e : csC (p :: T) = .int .i64 p.1.1 :: p.2 :: csC T := by unfold csC; simp
    rw [e]
    cases i with
    | zero => exact ⟨rfl, rfl⟩
    | succ i =>
      have h := ih i (by simpa using hi)
      rw [show (i + 1) * 2 = i * 2 + 1 + 1 by omega]
      exact ⟨by simpa using h.1, by simpa using h.2⟩
structure CsOwn (w : World) (base : Nat) (v : Value) (T : List Tc) : Prop where
  own : w.ownsRow base 57 2 v T.length (csC T)
  each : ∀ p ∈ T, Own w base p.2 p.1.2
  apart : ∀ p ∈ T, ∀ q, p.2.ownBlock = some q → v.ownBlock ≠ some q
  pair : T.Pairwise (fun p p' => ∀ q, p.2.ownBlock = some q → p'.2.ownBlock ≠ some q)
theorem CsOwn.nil (w : World) (base : Nat) : CsOwn w base (.slice none 0 0) [] := ⟨World.ownsRow_nil _ _ _ _, (fun p h => by cases h), (fun p h => by cases h), .nil⟩
theorem below_grownBy {w w' : World} (hb : Below w.heap.size w w') : w.grownBy w' none := ⟨hb.os, hb.tape, hb.output, hb.size, fun k hk _ => hb.block k hk⟩
theorem CsOwn.later {w w' : World} {base : Nat} {v : Value} {T : List Tc} (h : CsOwn w base v T) (hb : Below w.heap.size w w') : CsOwn w' base v T :=
  ⟨World.ownsRow.kept h.own (below_grownBy hb) (by cases hv : v.ownBlock <;> simp), fun p hp => (h.each p hp).later hb, h.apart, h.pair⟩
theorem own_kept {w w' : World} {base : Nat} {v : Value} {l : List (BitVec 8)} {row : Option Nat} (h : Own w base v l) (hg : w.grownBy w' row) (hne : ∀ q, v.ownBlock = some q → row ≠ some q) : Own w' base v l :=
  World.ownsRow.kept h hg (by
    cases e : v.ownBlock with
    | none => exact .inl rfl
    | some q => exact .inr (fun e2 => hne q e e2.symm))
theorem own_one {w : World} {base : Nat} {v : Value} {l : List (BitVec 8)} (h : Own w base v l) : v.oneCell' = true := by
  obtain ⟨a, cap, rfl, -⟩ := h.open
  rfl
theorem CsOwn.args {w : World} {base : Nat} {v : Value} {T : List Tc} (h : CsOwn w base v T) (hc : ∀ p ∈ T, I64 p.1.1 ∧ p.1.2.length ≤ 140737488355328) : ∃ a cap, v = .slice a T.length cap ∧ T.length ≤ cap ∧ CArgs w a (T.map (·.1)) := by
  have ho := h.own
  obtain ⟨h1, ⟨h2, h3⟩ | ⟨g, cap, cur, rfl, hb, hh, hcc, hm, hs, ht⟩⟩ := ho
  · exact ⟨none, 0, by rw [h2, h3], by omega, .inl (by rw [List.eq_nil_of_length_eq_zero h3]; rfl)⟩
  · refine ⟨_, cap, rfl, hcc, .inr ⟨g, 0, rfl, fun i hi => ?_⟩⟩
    rw [List.length_map] at hi
    have hc2 := hc _ (List.getElem_mem hi)
    have f := fun j (hj : j < T.length * 2) => World.ownsRow.cellAt h.own j hj
    obtain ⟨k1, k2⟩ := csC_at T i hi
    obtain ⟨a, c, e, k3, -, k4, -⟩ := (h.each _ (List.getElem_mem hi)).open
    rw [List.getElem_map]
    refine ⟨hc2.1, ?_, ⟨a, c, ?_, k4⟩, hc2.2⟩
    · rw [Nat.zero_add, f _ (by omega)]; exact k1
    · rw [Nat.zero_add, f _ (by omega), k2, e]
theorem info_ch : (Try.prog.info? 57).map (fun i => (i.zero, i.size, i.bytes)) = some (some (.agg #[.int .i64 0, .slice none 0 0]), 2, 32) := by kernel_rfl
theorem wpList_append_ch (w : World) {ops : Array Oper} {rest : List Oper} {o : Oper} {a : Act} {Q : Exit → Act → World → Prop} (hg : o.guard = none) (s x : Operand)
    (ho : o.op = .call { callee := .builtin .append, args := #[s, x], argTypes := #[32, 32] }) (base : Nat) (v : Value) (T : List Tc) (hv : a.eval s = v) (hown : CsOwn w base v T)
    (k : Nat) (p : Tc) (hx : a.eval x = .slice (some ⟨k, 0, none⟩) 1 1) (hc : Blk w k 57 [.int .i64 p.1.1, p.2]) (hO : Own w base p.2 p.1.2)
    (hfar : ∀ q, p.2.ownBlock = some q → v.ownBlock ≠ some q ∧ ∀ p' ∈ T, p'.2.ownBlock ≠ some q) (hmax : (T.length + 1) * 32 ≤ 140737488355328) (hbase : base ≤ w.heap.size)
    (next : ∀ (v' : Value) (w' : World), CsOwn w' base v' (T ++ [p]) → w.grownBy w' v.ownBlock → wpList Try.prog ops Q rest (a.put o.dst v') w') : wpList Try.prog ops Q (o :: rest) a w := by
  obtain ⟨i0, hi, hz0, hz1, hz2⟩ := info_parts info_ch
  refine wpList_append_own_at (w := w) hg s x 32 ho base 57 i0 (.agg #[.int .i64 0, .slice none 0 0]) 2 32 Try.underlying32 hi hz0 hz1 hz2 rfl (by decide) v T.length (csC T) hv hown.own ⟨k, 0, none⟩ 1 1 [.int .i64 p.1.1, p.2] hx rfl ?_ ?_ (by unfold maxLen; omega) (by omega) hbase ?_
  · intro j u hj
    have hjl : j < 2 := by
      rcases Nat.lt_or_ge j 2 with h | h
      · exact h
      · rw [List.getElem?_eq_none (by simpa using h)] at hj; cases hj
    have e1 : (⟨k, 0, none⟩ : Addr).add j = ⟨k, j, none⟩ := by unfold Addr.add; split <;> simp_all
    rw [e1, hc.cell (by simp [maxLen]) j (by simpa using hjl)]; exact hj
  · intro u hu
    simp only [List.mem_cons, List.not_mem_nil, or_false] at hu
    rcases hu with rfl | rfl
    · rfl
    · exact own_one hO
  · intro v' w' k2 k3 _ k5
    have hlt : ∀ p' ∈ T ++ [p], Own w base p'.2 p'.1.2 := fun p' hp' => by
      rcases List.mem_append.1 hp' with h | h
      · exact hown.each p' h
      · rw [List.mem_singleton.1 h]; exact hO
    have hap : ∀ p' ∈ T ++ [p], ∀ q, p'.2.ownBlock = some q → v.ownBlock ≠ some q := fun p' hp' q hq => by
      rcases List.mem_append.1 hp' with h | h
      · exact hown.apart p' h q hq
      · rw [List.mem_singleton.1 h] at hq; exact (hfar q hq).1
    refine next v' w' ⟨?_, fun p' hp' => own_kept (hlt p' hp') k3 (hap p' hp'), fun p' hp' q hq => ?_, ?_⟩ k3
    · rw [List.length_append, csC_snoc]; exact k2
    · rcases k5 with e | e
      · rw [e]; exact hap p' hp' q hq
      · rw [e]; intro e2; have := (World.ownsRow.lt (hlt p' hp') q hq).2; have := Option.some.inj e2; omega
    · refine List.pairwise_append.2 ⟨hown.pair, List.pairwise_singleton _ _, fun p1 h1 p2 h2 q hq => ?_⟩
      rw [List.mem_singleton.1 h2]
      intro e
      exact (hfar q e).2 p1 h1 hq
end Go.Proofs.Ytmkacgdbmojomaa

/- extent, the document's: LentChanges. -/
namespace Go.Proofs.Ytmkacgdbmojomaa
open Go.RowKit
set_option linter.unusedVariables false
set_option linter.unusedSimpArgs false
set_option maxRecDepth 8000

theorem own_base {w : World} {b b' : Nat} {v : Value} {l : List (BitVec 8)} (h : Own w b v l) (hle : b' ≤ b) : Own w b' v l :=
  ⟨h.1, h.2.imp id (fun ⟨g, cap, cur, e, hb, r⟩ => ⟨g, cap, cur, e, Nat.le_trans hle hb, r⟩)⟩
set_option maxHeartbeats 16000000 in
theorem lentC_any (a : Option Addr) (len cap : Nat) (l : List (Int × List (BitVec 8))) (w : World) (hl : l.length = len) (hlen : len * 32 ≤ 140737488355328) (hc : CArgs w a l) : Calls Try.prog 43 #[.slice a len cap] w fun e w' => ∃ v T, e = .returned v ∧ T.map (·.1) = l ∧ CsOwn w' w.heap.size v T ∧ Below w.heap.size w w' := by
  subst hl
  have HH : Hid _ := hc
  have hlI : (l.length : Int) ≤ 140737488355328 := by omega
  have HL : Hid _ := hlen
  clear hc hlen
  go_enter Try.func43, Try.ntmps43
  go_wp2_with fail
  go_loopw [3, 4] (fun ov iv wr => ∃ (k : Nat) (T : List Tc) (v : Value), v = ov ∧ k ≤ l.length ∧ iv = .int .i64 k ∧ T.map (·.1) = l.take k ∧ CsOwn wr w.heap.size v T ∧ Below w.heap.size w wr) (fun _ iv _ => l.length - (intOf iv).toNat)
  case atStart => exact ⟨0, [], _, rfl, Nat.zero_le _, rfl, rfl, CsOwn.nil _ _, Below.refl _ _⟩
  case round =>
    obtain ⟨k, T, v, rfl, hk, rfl, hT, hown, hb⟩ := hrel
    by_cases hlt : k < l.length
    · have q1 : (k : Int) < (l.length : Int) := by omega
      obtain ⟨p, off, rfl, hC⟩ : ∃ p off, a = some ⟨p, off, none⟩ ∧ CAt wr p off k l[k] := by
        rcases HH.out with e | ⟨p, off, e, hC⟩
        · rw [e] at hlt; simp at hlt
        · exact ⟨p, off, e, cat_later (n := 0) (hC k hlt) hb⟩
      have htk : l.take (k + 1) = l.take k ++ [l[k]] := (List.take_append_getElem hlt).symm
      have hTl : T.length = k := by have := congrArg List.length hT; rw [List.length_map, List.length_take] at this; omega
      generalize l[k] = rr at *
      obtain ⟨ra, rl⟩ := rr
      obtain ⟨x, c, d1, hrow⟩ := hC.data
      have d0 := hC.lba
      have hlen2 := hC.len
      simp only at d0 d1 hrow hlen2
      have HA : Hid _ := And.intro hC (And.intro htk (And.intro hTl (And.intro hrow (And.intro hT (And.intro hown hb)))))
      clear hC htk hTl hrow hT hown hb
      have bx : Below wr.heap.size wr (wr.alloc (.cells #[.int .i64 ra, .slice none 0 0] 57)) := (Below.refl _ _).alloc (Nat.le_refl _) _
      have B1 : Blk (wr.alloc (.cells #[.int .i64 ra, .slice none 0 0] 57)) wr.heap.size 57 [.int .i64 ra, .slice none 0 0] := Blk.new' wr _ _
      have hz1 : (wr.alloc (.cells #[.int .i64 ra, .slice none 0 0] 57)).heap.size = wr.heap.size + 1 := by simp
      have d11 : (wr.alloc (.cells #[.int .i64 ra, .slice none 0 0] 57)).cell? ⟨p, off + k * 2 + 1, none⟩ = some (.slice x rl.length c) := (World.cell?_of_block (w := wr) (a := ⟨p, off + k * 2 + 1, none⟩) (bx.block p (cell_lt HA.out.1.lba))).trans d1
      have hrow1 := HA.out.2.2.2.1.later bx
      have hbs := HA.out.2.2.2.2.2.2.size
      go_wp2_with fail
      generalize wr.alloc (.cells #[.int .i64 ra, .slice none 0 0] 57) = w1 at *
      obtain ⟨v2, w2, hrun, hO, hg⟩ := app_data w1.drew x c rl (show Row w1.drew x rl from hrow1) hlen2 31
      have hO2 : Own w2 w1.heap.size v2 rl := hO
      clear hO
      have hb2 : Below w1.heap.size w1 w2 := ((Below.refl _ _).drew).grown hg (Nat.le_refl _) (fun k hk => by cases hk)
      have d12 : w2.cell? ⟨p, off + k * 2 + 1, none⟩ = some (.slice x rl.length c) := (World.cell?_of_block (w := w1) (a := ⟨p, off + k * 2 + 1, none⟩) (hb2.block p (cell_lt d11))).trans d11
      have B2 := B1.laterB hb2
      have m1 := er_at B1 1
      have m2 := er_at B2 1
      have f2 := er_fz B2 1
      simp only [List.getElem?_cons_succ, List.getElem?_cons_zero] at m1 m2
      obtain ⟨a2, c2, e2, -⟩ := hO2.open
      subst e2
      have B3 : Blk (w2.setCell ⟨wr.heap.size, 1, none⟩ (.slice a2 rl.length c2)) wr.heap.size 57 [.int .i64 ra, .slice a2 rl.length c2] := B2.set 1 _
      have g3 := grown_set w2 wr.heap.size 1 (.slice a2 rl.length c2)
      obtain ⟨w3, hw3⟩ : ∃ y, y = w2.setCell ⟨wr.heap.size, 1, none⟩ (.slice a2 rl.length c2) := ⟨_, rfl⟩
      rw [← hw3] at B3 g3
      have hb12 := below_then bx hb2
      have hb13 : Below wr.heap.size wr w3 := hb12.grown g3 hb12.size (fun q hq => by cases hq; exact Nat.le_refl _)
      have hO3 : Own w3 w1.heap.size (.slice a2 rl.length c2) rl := own_kept hO2 g3 (fun q hq e => by have := (World.ownsRow.lt hO2 q hq).1; cases e; omega)
      have c30 := er_at B3 0
      have c31 := er_at B3 1
      simp only [List.getElem?_cons_succ, List.getElem?_cons_zero] at c30 c31
      have b4 : Below w3.heap.size w3 (w3.alloc (.cells #[.int .i64 ra, .slice a2 rl.length c2] 57)) := (Below.refl _ _).alloc (Nat.le_refl _) _
      have B4 : Blk (w3.alloc (.cells #[.int .i64 ra, .slice a2 rl.length c2] 57)) w3.heap.size 57 [.int .i64 ra, .slice a2 rl.length c2] := Blk.new' w3 _ _
      have hO4 := own_base (hO3.later b4) (b' := w.heap.size) (by omega)
      have hbb := below_then hb13 b4
      have hown4 := HA.out.2.2.2.2.2.1.later hbb
      have hfar : ∀ q, (Value.slice a2 rl.length c2).ownBlock = some q → v.ownBlock ≠ some q ∧ ∀ p' ∈ T, p'.2.ownBlock ≠ some q := fun q hq => by
        have h1 := (World.ownsRow.lt hO2 q hq).1
        exact ⟨fun e => by have := (World.ownsRow.lt HA.out.2.2.2.2.2.1.own q e).2; omega, fun p' hp' e => by have := (World.ownsRow.lt (HA.out.2.2.2.2.2.1.each p' hp') q e).2; omega⟩
      have hmax : (T.length + 1) * 32 ≤ 140737488355328 := by have := HL.out; have := HA.out.2.2.1; omega
      have hbase : w.heap.size ≤ (w3.alloc (.cells #[.int .i64 ra, .slice a2 rl.length c2] 57)).heap.size := Nat.le_trans hbs hbb.size
      have hvlt := World.ownsRow.lt hown4.own
      have H7 : Hid _ := And.intro (show w1.drew.cell? ⟨wr.heap.size, 1, none⟩ = some (.slice none 0 0) ∧ w1.drew.cell? ⟨p, off + k * 2 + 1, none⟩ = some (.slice x rl.length c) ∧ Below w1.heap.size w1 w1.drew from ⟨m1, d11, (Below.refl _ _).drew⟩) (And.intro hrun (And.intro (show w2.cell? ⟨wr.heap.size, 1, none⟩ = some (.slice none 0 0) ∧ w2.cell? ⟨p, off + k * 2 + 1, none⟩ = some (.slice x rl.length c) ∧ Below w1.heap.size w1 w2 from ⟨m2, d12, hb2⟩) hw3))
      have H8 : Hid _ := And.intro hown4 (And.intro B4 (And.intro hO4 (And.intro hfar (And.intro hmax (And.intro hbase (And.intro (below_then HA.out.2.2.2.2.2.2 hbb) hvlt))))))
      clear bx B1 hz1 hrow1 hbs hrun hg hO2 hb2 d12 B2 m1 hw3 B3 g3 hb12 hb13 hO3 b4 B4 hO4 hbb hown4 hfar hmax hbase hvlt
      refine e_begin (S := fun W => W.cell? ⟨wr.heap.size, 1, none⟩ = some (.slice none 0 0) ∧ W.cell? ⟨p, off + k * 2 + 1, none⟩ = some (.slice x rl.length c) ∧ Below w1.heap.size w1 W) 9 (by kernel_rfl) (H7.out.1) (fun hS => ?_)
      refine e_take (i := 0) (v := ?_) [1, 7, 9] rfl (by kernel_rfl) (by kernel_rfl) (by kernel_rfl) (by kernel_rfl) (by exact fun _ _ _ h => h) (by rfl) ?_ hS ?_
      rotate_left
      · ((intro w hSw; (try dsimp only at hSw); go_simp) <;> with_reducible rfl)
      (try simp only [Act.put, List.setIfInBounds_toArray, List.set_cons_zero, List.set_cons_succ])
      refine e_take (i := 1) (v := ?_) [7, 9] rfl (by kernel_rfl) (by kernel_rfl) (by kernel_rfl) (by kernel_rfl) (by exact fun _ _ _ h => h) (by rfl) ?_ hS ?_
      rotate_left
      · ((intro w hSw; (try dsimp only at hSw); go_simp) <;> with_reducible rfl)
      (try simp only [Act.put, List.setIfInBounds_toArray, List.set_cons_zero, List.set_cons_succ])
      refine e_take (i := 2) (v := ?_) [4, 5, 6, 7, 9] rfl (by kernel_rfl) (by kernel_rfl) (by kernel_rfl) (by kernel_rfl) (by exact fun _ _ _ h => h) (by rfl) ?_ hS ?_
      rotate_left
      · ((intro w hSw; (try dsimp only at hSw); go_simp) <;> with_reducible rfl)
      (try simp only [Act.put, List.setIfInBounds_toArray, List.set_cons_zero, List.set_cons_succ])
      refine e_take (i := 3) (v := ?_) [4, 5, 6, 7, 9] rfl (by kernel_rfl) (by kernel_rfl) (by kernel_rfl) (by kernel_rfl) (by exact fun _ _ _ h => h) (by rfl) ?_ hS ?_
      rotate_left
      · ((intro w hSw; (try dsimp only at hSw); go_simp) <;> with_reducible rfl)
      (try simp only [Act.put, List.setIfInBounds_toArray, List.set_cons_zero, List.set_cons_succ])
      refine e_take (i := 4) (v := ?_) [5, 6, 7, 9] rfl (by kernel_rfl) (by kernel_rfl) (by kernel_rfl) (by kernel_rfl) (by exact fun _ _ _ h => h) (by rfl) ?_ hS ?_
      rotate_left
      · ((intro w hSw; (try dsimp only at hSw); go_simp) <;> with_reducible rfl)
      (try simp only [Act.put, List.setIfInBounds_toArray, List.set_cons_zero, List.set_cons_succ])
      refine e_take (i := 5) (v := ?_) [6, 7, 9] rfl (by kernel_rfl) (by kernel_rfl) (by kernel_rfl) (by kernel_rfl) (by exact fun _ _ _ h => h) (by rfl) ?_ hS ?_
      rotate_left
      · ((intro w hSw; (try dsimp only at hSw); go_simp) <;> with_reducible rfl)
      (try simp only [Act.put, List.setIfInBounds_toArray, List.set_cons_zero, List.set_cons_succ])
      refine e_take (i := 6) (v := ?_) [7, 9] rfl (by kernel_rfl) (by kernel_rfl) (by kernel_rfl) (by kernel_rfl) (by exact fun _ _ _ h => h) (by rfl) ?_ hS ?_
      rotate_left
      · ((intro w hSw; (try dsimp only at hSw); go_simp) <;> with_reducible rfl)
      (try simp only [Act.put, List.setIfInBounds_toArray, List.set_cons_zero, List.set_cons_succ])
      refine e_one (i := 7) rfl (by kernel_rfl) (fun K hK => ?_)
      refine st_app5 rfl _ _ 31 31 rfl _ _ rfl rfl H7.out.2.1 ?_
      refine hK.out _ _ H7.out.2.2.1 (fun _ => ?_)
      clear hK K hS
      have hS := H7.out.2.2.1
      refine e_take (i := 8) (v := ?_) [9] rfl (by kernel_rfl) (by kernel_rfl) (by kernel_rfl) (by kernel_rfl) (by exact fun _ _ _ h => h) (by rfl) ?_ hS ?_
      rotate_left
      · ((intro w hSw; (try dsimp only at hSw); go_simp) <;> with_reducible rfl)
      (try simp only [Act.put, List.setIfInBounds_toArray, List.set_cons_zero, List.set_cons_succ])
      clear hS
      refine e_last (z := 9) rfl (by kernel_rfl) (fun K hK => ?_)
      go_simp
      rw [← H7.out.2.2.2]
      refine hK.out _ _ ?_
      clear hK K
      refine e_done (by kernel_rfl) ?_ _
      clear H7 d0 d1 d11 m2 f2
      go_wp2_with (at_builtin; refine wpList_append_ch _ rfl _ _ rfl w.heap.size v T rfl H8.out.1 w3.heap.size ((ra, rl), .slice a2 rl.length c2) rfl H8.out.2.1 H8.out.2.2.1 H8.out.2.2.2.1 H8.out.2.2.2.2.1 H8.out.2.2.2.2.2.1 ?_)
      rintro v' w5 own5 g5
      have F : Hid _ := And.intro own5 (And.intro (show (T ++ [((ra, rl), Value.slice a2 rl.length c2)]).map (·.1) = l.take (k + 1) by rw [List.map_append, HA.out.2.2.2.2.1, HA.out.2.1]; rfl) (H8.out.2.2.2.2.2.2.1.grown g5 H8.out.2.2.2.2.2.1 (fun q hq => (H8.out.2.2.2.2.2.2.2 q hq).1)))
      clear own5 g5 H8 HA
      go_wp2
      go_roundw
      case rel => exact ⟨k + 1, _, _, rfl, by omega, by first | rfl | go_num, F.out.2.1, F.out.1, F.out.2.2⟩
      case measure => simp [intOf]; omega
    · obtain rfl : k = l.length := by omega
      have q1 : ¬ ((l.length : Int) < (l.length : Int)) := by omega
      rw [List.take_length] at hT
      have F : Hid _ := And.intro hT (And.intro hown hb)
      clear hT hown hb hk hlt
      go_wp2
      go_ret
      exact ⟨_, rfl, T, F.out.1, F.out.2.1, F.out.2.2⟩
end Go.Proofs.Ytmkacgdbmojomaa
