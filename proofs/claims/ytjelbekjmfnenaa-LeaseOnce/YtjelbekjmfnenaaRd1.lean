/- Reads that wait: one more is asked. -/
import Derived.Test.YtjelbekjmfnenaaLs8
namespace Go.Proofs.Ytjelbekjmfnenaa
open Go.RowKit Go.Shelf
set_option linter.unusedVariables false
set_option linter.unusedSimpArgs false
set_option maxRecDepth 4000

/-- reads that wait: their ids and indexes -/
def rdOb (g : Nat) (q : Option Nat) (l : List (Int × Int)) : Ob := qu 81 84 g q [] l
theorem info_read : (Try.prog.info? 84).map (fun i => (i.zero, i.size, i.bytes)) = some (some (.agg #[.int .i64 0, .int .i64 0]), 2, 16) := by kernel_rfl
theorem rdsize_any (T : TypeId) (g : Nat) (q : Option Nat) (hd : List Value) (l : List (Int × Int)) (w : World) (h : (qu T 84 g q hd l).Ok w) :
    Calls Try.prog 43 #[.pointer (some ⟨g, hd.length, none⟩)] w fun e w' => e = .returned (.int .i64 l.length) ∧ w = w' := by
  obtain ⟨hn, v, hq, hG, ho⟩ := h.holds
  have c0 := blk_at hG hd.length
  simp at c0
  obtain ⟨va, vc, rfl, -, -⟩ := ho.open
  clear hG ho h
  generalize hd.length = o at *
  go_enter Try.func43, Try.ntmps43
  go_wp2
  go_ret
  exact ⟨rfl, rfl⟩
set_option maxHeartbeats 1000000 in
theorem rdadd_any (g : Nat) (q : Option Nat) (l : List (Int × Int)) (x y : Int) (w : World) (h : (rdOb g q l).Ok w) (hl : l.length ≤ 1000) :
    Calls Try.prog 44 #[.pointer (some ⟨g, 0, none⟩), .agg #[.int .i64 x, .int .i64 y]] w fun e w' => ∃ q', e = .returned (.tuple #[]) ∧ Step w w' (rdOb g q l) (rdOb g q' (l ++ [(x, y)])) := by
  have b0 : Below w.heap.size w (w.alloc (.cells #[.int .i64 x, .int .i64 y] 84)) := (Below.refl _ _).alloc (Nat.le_refl _) _
  have M0 := Blk.new' w 84 [.int .i64 x, .int .i64 y]
  have k0 := blk_at M0 0
  have k1 := blk_at M0 1
  simp only [List.getElem?_cons_zero, List.getElem?_cons_succ] at k0 k1
  obtain ⟨hn, v, hq, hG, ho⟩ := id h.holds
  have hG1 := hG.laterB b0
  have c1 := blk_at hG1 0
  simp only [List.cons_append, List.nil_append, List.getElem?_cons_zero, List.getElem?_cons_succ] at c1
  obtain ⟨va, vc, hv, -, -⟩ := ho.open
  have z0 : (w.alloc (.cells #[.int .i64 x, .int .i64 y] 84)).heap.size = w.heap.size + 1 := by simp
  have HP : Hid _ := And.intro h (And.intro hq (And.intro hG ho))
  have HB : Hid _ := And.intro b0 z0
  have hmx : l.length ≤ 1000000 := by omega
  clear h hG hG1 ho b0 M0 z0 hl
  have HV : Hid _ := hv
  rw [hv] at c1
  go_enter Try.func44, Try.ntmps44
  go_wp2_with fail
  generalize w.alloc (.cells #[.int .i64 x, .int .i64 y] 84) = w1 at *
  have b1 : Below w1.heap.size w1 (w1.drew.alloc (.cells #[.int .i64 x, .int .i64 y] 84)) := ((Below.refl _ _).drew).alloc (Nat.le_refl _) _
  have bb := below_then HB.out.1 b1
  have hG4 : Hid _ := And.intro (HP.out.2.2.2.later bb) (And.intro (Blk.new' w1.drew 84 [.int .i64 x, .int .i64 y]) bb)
  have t3 : (w1.alloc (.cells #[.int .i64 x, .int .i64 y] 84)).cell? ⟨g, 0, none⟩ = some (.slice va l.length vc) := cell_later ((Below.refl _ _).alloc (Nat.le_refl _) _) c1
  clear b1 bb
  go_region_law (refine step_append_pair 77 84 Try.underlying77 info_read rfl (.tmp 8) (.tmp 10) rfl v l (by simp [Act.eval, HV.out]) hG4.out.1 w1.heap.size x y (by simp [Act.eval]) hG4.out.2.1 hmx ?_; intro gv' w5 hown hg5 hor; obtain ⟨a', c', hv', -, -⟩ := hown.open; rw [List.length_append, List.length_singleton] at hv'; have W : Put2 _ _ g q [] l w w5 v gv' _ := ⟨HP.out.1, HP.out.2.1, HP.out.2.2.1, (turned_below hG4.out.2.2).mono (fun _ h => h.elim) |>.trans (turned_grown hg5 (fun k e => .inl (by rw [← HP.out.2.1]; exact e))), hown, (fun k hk => by rcases hor with e | e; exact .inl (by rw [← HP.out.2.1, ← e]; exact hk); exact .inr (by rw [e] at hk; cases hk; exact hG4.out.2.2.size))⟩; obtain ⟨cc, cf⟩ := W.cell; simp only [List.length_nil] at cc cf; have HS : Hid _ := W.done; subst hv'; clear W hown hg5 hor)
  all_goals
    go_wp2
    go_end0
    exact ⟨_, rfl, HS.out⟩
theorem rdNew_any (w : World) : Calls Try.prog 19 #[] w fun e w' => ∃ g, e = .returned (.pointer (some ⟨g, 0, none⟩)) ∧ w.heap.size ≤ g ∧ (rdOb g none []).Ok w' ∧ Below w.heap.size w w' := by
  have N := Blk.new' w 81 [.slice none 0 0]
  have bn : Below w.heap.size w (w.alloc (.cells #[.slice none 0 0] 81)) := (Below.refl _ _).alloc (Nat.le_refl _) _
  have F : Hid _ := And.intro (qu_ok (T := 81) (E := 84) (g := w.heap.size) (q := none) (hd := []) (l := []) ⟨by simp, _, rfl, N, PrOwn.nil _ _⟩) bn
  clear N bn
  go_enter Try.func19, Try.ntmps19
  go_wp2
  go_ret
  exact ⟨_, rfl, Nat.le_refl _, F.out.1, F.out.2⟩
set_option maxHeartbeats 400000 in
theorem ask1_any (a b r : Int) (rb : Nat) (w : World) (hB : w.cell? ⟨rb, 0, none⟩ = some (.int .i64 r)) :
    Calls Try.prog 42 #[.agg #[.int .i64 a, .int .i64 b], .pointer (some ⟨rb, 0, none⟩)] w fun e w' => e = .returned (.bool (decide (a = r))) ∧ Below w.heap.size w w' := by
  have b2 : Below w.heap.size w (w.alloc (.cells #[.int .i64 a, .int .i64 b] 84)) := (Below.refl _ _).alloc (Nat.le_refl _) _
  have M := Blk.new' w 84 [.int .i64 a, .int .i64 b]
  have k0 := blk_at M 0
  simp at k0
  have k1 := cell_later b2 hB
  have F : Hid _ := b2
  clear b2 M hB
  go_enter Try.func42, Try.ntmps42
  go_wp2
  go_ret
  exact ⟨by first | rfl | simp_all, F.out⟩
set_option maxHeartbeats 400000 in
theorem take1_any (a b r : Int) (rb : Nat) (w : World) (hB : w.cell? ⟨rb, 0, none⟩ = some (.int .i64 r)) :
    Calls Try.prog 55 #[.agg #[.int .i64 a, .int .i64 b], .pointer (some ⟨rb, 0, none⟩)] w fun e w' => e = .returned (.bool (decide (b ≤ r))) ∧ Below w.heap.size w w' := by
  have b2 : Below w.heap.size w (w.alloc (.cells #[.int .i64 a, .int .i64 b] 84)) := (Below.refl _ _).alloc (Nat.le_refl _) _
  have M := Blk.new' w 84 [.int .i64 a, .int .i64 b]
  have k0 := blk_at M 1
  simp at k0
  have k1 := cell_later b2 hB
  have F : Hid _ := b2
  clear b2 M hB
  by_cases hab : b ≤ r
  · rw [decide_eq_true hab]
    go_enter Try.func55, Try.ntmps55
    go_wp2
    go_ret
    exact ⟨by simp_all, F.out⟩
  · rw [decide_eq_false hab]
    go_enter Try.func55, Try.ntmps55
    go_wp2
    go_ret
    exact ⟨by simp_all, F.out⟩
set_option maxHeartbeats 1000000 in
theorem rdIndex_any (v : Value) (l : List (Int × Int)) (rb : Nat) (r : Int) (w : World) (ho : PrOwn 84 w v l) (hl : l.length ≤ 1000) (hB : Blk w rb 2 [.int .i64 r]) :
    Calls Try.prog 58 #[v, .func (.func 42) #[] #[.pointer (some ⟨rb, 0, none⟩)]] w fun e w' => (∃ i : Int, e = .returned (.int .i64 i) ∧ (decide (0 ≤ i) = l.any (fun x => decide (x.1 = r)))) ∧ Below w.heap.size w w' := by
  obtain ⟨va, vc, rfl, hvc, hcs⟩ := ho.open
  have HA : Hid _ := And.intro hcs hB
  clear ho hcs hB
  go_enter Try.func58, Try.ntmps58
  go_wp2_with fail
  go_loopw [8] (fun iv wr => ∃ (k : Nat), iv = .int .i64 k ∧ k ≤ l.length ∧ (∀ x ∈ l.take k, ¬ x.1 = r) ∧ Below w.heap.size w wr) (fun iv _ => l.length - (intOf iv).toNat)
  case atStart => exact ⟨0, rfl, by omega, by simp, Below.refl _ _⟩
  case round =>
    obtain ⟨k, rfl, hk, hno, hb⟩ := hrel
    by_cases hlt : k < l.length
    · obtain ⟨b, rfl, -, k1, k2⟩ := HA.out.1 k hlt
      have k1' := cell_later hb k1
      have k2' := cell_later hb k2
      have q1 : (k : Int) < l.length := by omega
      have H1 : Hid _ := ask1_any l[k].1 l[k].2 r rb wr (by have := (HA.out.2.laterB hb).cell (by simp [maxLen]) 0 (by simp); simpa using this)
      have hsn : l.take (k + 1) = l.take k ++ [l[k]] := List.take_succ_eq_append_getElem hlt
      have hm : l[k] ∈ l := List.getElem_mem _
      generalize l[k] = x at *
      have G : Hid _ := And.intro hno (And.intro hb (And.intro hsn hm))
      clear hno hb k1 k2 hsn hm
      by_cases hx : x.1 = r
      · rw [decide_eq_true hx] at H1
        have HX : Hid _ := hx
        clear hx
        go_wp2_with fail
        refine (Calls.mono H1.out) ?_
        rintro e w2 ⟨rfl, b2⟩
        have F : Hid _ := below_then G.out.2.1 b2
        clear b2 H1
        go_wp2
        go_ret
        refine ⟨⟨_, rfl, ?_⟩, F.out⟩
        rw [decide_eq_true (by omega)]
        exact (List.any_eq_true.2 ⟨x, G.out.2.2.2, by simpa using HX.out⟩).symm
      · rw [decide_eq_false hx] at H1
        go_wp2_with fail
        refine (Calls.mono H1.out) ?_
        rintro e w2 ⟨rfl, b2⟩
        have F : Hid _ := below_then G.out.2.1 b2
        have F2 : Hid (∀ y ∈ l.take (k + 1), ¬ y.1 = r) := by
          rw [G.out.2.2.1]
          intro y hy
          rcases List.mem_append.1 hy with hy | hy
          · exact G.out.1 y hy
          · rw [List.mem_singleton.1 hy]; exact hx
        clear b2 H1 G
        go_wp2
        go_roundw
        case rel => exact ⟨k + 1, by go_num, by omega, F2.out, F.out⟩
        case measure => simp [intOf]; omega
    · obtain rfl : k = l.length := by omega
      have G : Hid _ := And.intro hno hb
      clear hno hb
      go_wp2
      go_ret
      refine ⟨⟨_, rfl, ?_⟩, G.out.2⟩
      have : l.any (fun x => decide (x.1 = r)) = false := List.any_eq_false.2 (fun x hx => by have := G.out.1 x (by simpa using hx); simpa using this)
      rw [this]; rfl
theorem rdContains_any (v : Value) (l : List (Int × Int)) (rb : Nat) (r : Int) (w : World) (ho : PrOwn 84 w v l) (hl : l.length ≤ 1000) (hB : Blk w rb 2 [.int .i64 r]) :
    Calls Try.prog 52 #[v, .func (.func 42) #[] #[.pointer (some ⟨rb, 0, none⟩)]] w fun e w' => e = .returned (.bool (l.any (fun x => decide (x.1 = r)))) ∧ Below w.heap.size w w' := by
  have HI : Hid _ := rdIndex_any v l rb r w ho hl hB
  obtain ⟨va, vc, rfl, hvc, hcs⟩ := ho.open
  clear ho hB hcs
  go_enter Try.func52, Try.ntmps52
  go_wp2_with fail
  refine (Calls.mono HI.out) ?_
  rintro e w1 ⟨⟨i, rfl, hi⟩, b1⟩
  have G : Hid _ := And.intro hi b1
  clear hi b1 HI
  by_cases h0 : 0 ≤ i
  · go_wp2
    go_ret
    exact ⟨by rw [← G.out.1, decide_eq_true h0]; rfl, G.out.2⟩
  · go_wp2
    go_ret
    exact ⟨by rw [← G.out.1, decide_eq_false (by omega)]; rfl, G.out.2⟩
theorem rdhas_any (g : Nat) (q : Option Nat) (l : List (Int × Int)) (rb : Nat) (r : Int) (w : World) (h : (rdOb g q l).Ok w) (hl : l.length ≤ 1000) (hB : Blk w rb 2 [.int .i64 r]) :
    Calls Try.prog 41 #[.pointer (some ⟨g, 0, none⟩), .func (.func 42) #[] #[.pointer (some ⟨rb, 0, none⟩)]] w fun e w' => e = .returned (.bool (l.any (fun x => decide (x.1 = r)))) ∧ Below w.heap.size w w' := by
  obtain ⟨hn, v, hq, hG, ho⟩ := h.holds
  have c0 := blk_at hG 0
  simp at c0
  have HI : Hid _ := rdContains_any v l rb r w ho hl hB
  obtain ⟨va, vc, rfl, hvc, hcs⟩ := ho.open
  clear ho hB hG h hcs
  go_enter Try.func41, Try.ntmps41
  go_wp2_with fail
  refine (Calls.mono HI.out) ?_
  rintro e w1 ⟨rfl, b1⟩
  have F : Hid _ := b1
  clear b1 HI
  go_wp2
  go_ret
  exact ⟨rfl, F.out⟩
end Go.Proofs.Ytjelbekjmfnenaa
