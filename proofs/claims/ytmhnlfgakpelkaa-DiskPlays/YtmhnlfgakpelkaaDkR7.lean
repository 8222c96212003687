/- The document's disk: a write. -/
import Derived.Test.YtmhnlfgakpelkaaDkR6b
namespace Go.Proofs.Ytmhnlfgakpelkaa
open Go.RowKit
set_option linter.unusedVariables false

theorem info_rgroup : (Try.prog.info? 73).map (fun i => (i.zero, i.size, i.bytes)) = some (some (.agg #[.int .i64 0, .slice none 0 0]), 2, 32) := by kernel_rfl
/-- append of one group of the document's -/
theorem wpList_append_rgroup (w : World) {ops : Array Oper} {rest : List Oper} {o : Oper} {a : Act} {Q : Exit → Act → World → Prop} (hg : o.guard = none) (s x : Operand)
    (ho : o.op = .call { callee := .builtin .append, args := #[s, x], argTypes := #[37, 37] }) (v : Value) (n : Nat) (vs : List Value) (hs : a.eval s = v) (hown : w.ownsRow 0 73 2 v n vs)
    (k : Nat) (u0 u1 : Value) (hx : a.eval x = .slice (some ⟨k, 0, none⟩) 1 1) (hc0 : w.cell? ⟨k, 0, none⟩ = some u0) (hc1 : w.cell? ⟨k, 1, none⟩ = some u1) (h0 : u0.oneCell' = true) (h1 : u1.oneCell' = true) (hmax : n ≤ 1000000)
    (next : ∀ (v' : Value) (w' : World), w'.ownsRow 0 73 2 v' (n + 1) (vs ++ [u0, u1]) → w.grownBy w' v.ownBlock → (v'.ownBlock = v.ownBlock ∨ v'.ownBlock = some w.heap.size) → wpList Try.prog ops Q rest (a.put o.dst v') w') : wpList Try.prog ops Q (o :: rest) a w := by
  obtain ⟨i0, hi, hz0, hz1, hz2⟩ := info_parts info_rgroup
  refine wpList_append_own_at (w := w) hg s x 37 ho 0 73 i0 (.agg #[.int .i64 0, .slice none 0 0]) 2 32 Try.underlying37 hi hz0 hz1 hz2 rfl (by decide) v n vs hs hown ⟨k, 0, none⟩ 1 1 [u0, u1] hx rfl ?_ ?_ (by unfold maxLen; omega) (by omega) (Nat.zero_le _) ?_
  · intro j u hj
    match j, hj with
    | 0, hj => simp at hj; subst hj; simpa [Addr.add] using hc0
    | 1, hj => simp at hj; subst hj; simpa [Addr.add] using hc1
  · intro u hu
    simp at hu
    rcases hu with rfl | rfl
    · exact h0
    · exact h1
  · intro v' w' h2 h3 _ h5
    exact next v' w' h2 h3 h5

/-- what a write of the document's has done to memory -/
theorem rwrote {g x : Nat} {q r : Option Nat} {V V1 : List Nat} {d : Dm} {w w1 w4 w5 : World} {sv0 lv lv' sv : Value} {S : List (List (BitVec 8))} {vs ls : List Value} {lb : List (BitVec 8)} (h : (rdk g q r V d).Ok w) (hD : RdkAt w g V sv0 lv S vs ls d) (nd : (g :: (q.toList ++ r.toList)).Nodup) (hq : sv0.ownBlock = q) (hr : lv.ownBlock = r)
    (b1 : Below w.heap.size w w1) (ok1 : (stOb sv V1 (chs lb (secs lb.length))).Ok w1) (hnew : ∀ k, k ∈ (stOb sv V1 (chs lb (secs lb.length))).W ∨ k ∈ V1 → w.heap.size ≤ k) (b4 : Below w1.heap.size w1 w4)
    (own : w5.ownsRow 0 73 2 lv' (d.gs.length + 1) (ls ++ [.int .i64 x, sv])) (g5 : w4.grownBy w5 lv.ownBlock) (or : lv'.ownBlock = lv.ownBlock ∨ lv'.ownBlock = some w4.heap.size) :
    w5.cell? ⟨g, 1, none⟩ = some lv ∧ w5.frozen? ⟨g, 1, none⟩ = false ∧ Step w (w5.setCell ⟨g, 1, none⟩ lv') (rdk g q r V d) (rdk g q lv'.ownBlock (sv.ownBlock.toList ++ (V1 ++ V)) { d with gs := d.gs ++ [(x, lb)] }) := by
  have z1 := b1.size
  have z4 := b4.size
  have z5 := g5.size
  have hlt := h.lt
  have hap := h.apart
  have nd' := nd
  simp only [List.nodup_cons, List.mem_append, Option.mem_toList, not_or] at nd'
  have lg : g < w.heap.size := hlt g (.inl (by simp [rdk]))
  have hold : ∀ k, k < w1.heap.size → r ≠ some k → w5.heap[k]? = w1.heap[k]? := fun k hk hn => by
    rw [g5.block k (by omega) (by rw [hr]; exact fun e => hn e.symm), b4.block k hk]
  have hold' : ∀ k, k < w.heap.size → r ≠ some k → w5.heap[k]? = w.heap[k]? := fun k hk hn => by
    rw [hold k (by omega) hn, b1.block k hk]
  have lr : ∀ k, r = some k → k < w.heap.size := fun k e => hlt k (.inl (by simp [rdk, e]))
  have hB : Blk w5 g 39 [sv0, lv, .bool d.bad, .bool d.gone] := by
    have := hD.blk
    unfold Blk at *
    rw [hold' g lg (fun e => nd'.1.2 e)]; exact this
  refine ⟨hB.cell (by simp [maxLen]) 1 (by simp), hB.frozen (by simp [maxLen]) 1, ?_⟩
  have hBs := hB.set 1 lv'
  have hset : ∀ k, k ≠ g → (w5.setCell ⟨g, 1, none⟩ lv').heap[k]? = w5.heap[k]? := fun k hk => Below.heap_setCell _ _ _ _ hk
  have hsz : (w5.setCell ⟨g, 1, none⟩ lv').heap.size = w5.heap.size := by simp [World.setCell]
  have hos : (w5.setCell ⟨g, 1, none⟩ lv').os = w5.os := rfl
  have hl' : ∀ k, lv'.ownBlock = some k → r = some k ∨ k = w4.heap.size := by
    intro k hk
    rcases or with e | e
    · rw [hr] at e; rw [e] at hk; exact .inl hk
    · rw [e] at hk; exact .inr (by simpa using hk.symm)
  have lq' := World.ownsRow.lt own
  obtain ⟨ws, k2, k3⟩ := ok1.holds
  have lt1 := ok1.lt
  have ne1 : ∀ k, w.heap.size ≤ k → k < w1.heap.size → (w5.setCell ⟨g, 1, none⟩ lv').heap[k]? = w1.heap[k]? := fun k h1 h2 => by
    rw [hset k (by omega), hold k h2 (fun e => by have := lr k e; omega)]
  have neV : ∀ k ∈ V, (w5.setCell ⟨g, 1, none⟩ lv').heap[k]? = w.heap[k]? := fun k hk => by
    have c1 : k ≠ g := fun e => hap g (by simp [rdk]) (e ▸ hk)
    rw [hset k c1, hold' k (hlt k (.inr hk)) (fun e => hap k (by simp [rdk, e]) hk)]
  refine ⟨⟨?_, ?_, ?_, by omega, ?_⟩, rdk_ok ⟨?_, sv0, lv', S, vs, ls ++ [.int .i64 x, sv], hq, rfl, by simpa using hBs, ?_, ?_, hD.join, hD.each, ?_, ?_⟩ ?_ ?_, ?_, ?_⟩
  · exact (g5.os.trans b4.os).trans b1.os
  · exact (g5.tape.trans b4.tape).trans b1.tape
  · exact (g5.output.trans b4.output).trans b1.output
  · intro k hk hn
    simp only [rdk, List.mem_cons, List.mem_append, Option.mem_toList, not_or] at hn
    rw [hset k hn.1, hold' k hk (fun e => hn.2.2 e)]
  · simp only [List.nodup_cons, List.mem_append, Option.mem_toList, not_or]
    refine ⟨⟨nd'.1.1, fun e => ?_⟩, ?_⟩
    · rcases hl' _ e with e' | e'
      · exact nd'.1.2 e'
      · omega
    · have hqr : ∀ k, q = some k → lv'.ownBlock = some k → False := fun k e1 e2 => by
        rcases hl' _ e2 with e' | e'
        · have nd2 := nd'.2; rw [e1, e'] at nd2; simp at nd2
        · have := hlt k (.inl (by simp [rdk, e1])); omega
      cases hqo : q with
      | none => cases lv'.ownBlock <;> simp
      | some a =>
        cases hlo : lv'.ownBlock with
        | none => simp
        | some b => simp; intro e; subst e; exact hqr a hqo hlo
  · refine ownsRow_same hD.safe (fun k hk => ?_)
    rw [hq] at hk
    rw [hset k (fun e => nd'.1.1 (e ▸ hk)), hold' k (hlt k (.inl (by simp [rdk, hk]))) (fun e => by have nd2 := nd'.2; rw [hk, e] at nd2; simp at nd2)]
  · exact hD.secs.same neV (fun k hk => by simp [hk])
  · show World.ownsRow _ 0 _ 2 _ (d.gs ++ [(x, lb)]).length _
    rw [List.length_append, List.length_singleton]
    refine ownsRow_same own (fun k hk => hset k ?_)
    rcases hl' k hk with e | e
    · intro e'; subst e'; exact nd'.1.2 e
    · omega
  · have k2' : w1.ownsRow 0 22 1 sv (secs lb.length) ws := by rw [chs_length] at k2; exact k2
    refine RgAt.snoc (hD.held.same neV (fun k hk => by simp [hk])) (x, lb) sv ws (ownsRow_same k2' (fun k hk => ?_)) (k3.same (fun k hk => ?_) (fun k hk => by simp [hk])) (fun k hk => by simp [hk])
    · exact ne1 k (hnew k (.inl (by simp [stOb, hk]))) (lt1 k (.inl (by simp [stOb, hk])))
    · exact ne1 k (hnew k (.inr hk)) (lt1 k (.inr hk))
  · intro k hk
    rw [hsz]
    simp only [List.mem_cons, List.mem_append, Option.mem_toList] at hk
    rcases hk with (rfl | hk | hk) | (hk | hk | hk)
    · omega
    · have := hlt k (.inl (by simp [rdk, hk])); omega
    · exact (lq' k hk).2
    · have := lt1 k (.inl (by simp [stOb, hk])); omega
    · have := lt1 k (.inr hk); omega
    · have := hlt k (.inr hk); omega
  · intro k hk hv
    simp only [List.mem_cons, List.mem_append, Option.mem_toList] at hk hv
    have hnk : k ∈ (stOb sv V1 (chs lb (secs lb.length))).W ∨ k ∈ V1 → False := fun hm => by
      have h1 := hnew k hm
      have h2 := lt1 k hm
      rcases hk with rfl | hk | hk
      · omega
      · have := hlt k (.inl (by simp [rdk, hk])); omega
      · rcases hl' k hk with e | e
        · have := lr k e; omega
        · omega
    rcases hv with hv | hv | hv
    · exact hnk (.inl (by simp [stOb, hv]))
    · exact hnk (.inr hv)
    · have h2 := hlt k (.inr hv)
      rcases hk with rfl | hk | hk
      · exact hap k (by simp [rdk]) hv
      · exact hap k (by simp [rdk, hk]) hv
      · rcases hl' k hk with e | e
        · exact hap k (by simp [rdk, e]) hv
        · omega
  · intro k hk
    simp only [rdk, List.mem_cons, List.mem_append, Option.mem_toList] at hk ⊢
    rcases hk with rfl | hk | hk
    · exact .inl (.inl rfl)
    · exact .inl (.inr (.inl hk))
    · rcases hl' k hk with e | e
      · exact .inl (.inr (.inr e))
      · exact .inr (by omega)
  · intro k hk
    simp only [rdk, List.mem_append, Option.mem_toList] at hk
    rcases hk with hk | hk | hk
    · exact .inr (.inr (hnew k (.inl (by simp [stOb, hk]))))
    · exact .inr (.inr (hnew k (.inr hk)))
    · exact .inr (.inl hk)

set_option maxHeartbeats 400000 in
theorem rWrite_dead (g : Nat) (q r : Option Nat) (V : List Nat) (d : Dm) (a : Int) (b : Value) (w : World) (h : (rdk g q r V d).Ok w) (hd : d.gone = true) :
    Calls Try.prog 33 #[.pointer (some ⟨g, 0, none⟩), .int .i64 a, b] w fun e w' => e = .returned (.int .i64 21) ∧ w = w' := by
  obtain ⟨c3, c4, -⟩ := rdk_cells h.holds
  rw [hd] at c4
  clear h hd
  go_enter Try.func33, Try.ntmps33
  go_wp2
  go_ret
  exact ⟨rfl, rfl⟩
set_option maxRecDepth 4000 in
set_option maxHeartbeats 1000000 in
theorem rWrite_arg (g : Nat) (q r : Option Nat) (V : List Nat) (d : Dm) (a : Int) (ab : Option Addr) (len cap : Nat) (lb : List (BitVec 8)) (w : World) (h : (rdk g q r V d).Ok w) (hw : d.Wf) (hd : d.gone = false) (hl : lb.length = len) (hr : Row w ab lb) (hle : len ≤ cap) (hm : len ≤ 140737488355328) (ha : -9223372036854775808 ≤ a ∧ a ≤ 9223372036854775807) (hb : hasB d.n a (secs len : Nat) = false) :
    Calls Try.prog 33 #[.pointer (some ⟨g, 0, none⟩), .int .i64 a, .slice ab len cap] w fun e w' => e = .returned (.int .i64 1) ∧ Below w.heap.size w w' := by
  obtain ⟨c3, c4, -⟩ := rdk_cells h.holds
  rw [hd] at c4
  obtain ⟨hn, sv, lv, S, vs, ls, hq, hr', hD⟩ := h.holds
  have c0 := hD.blk.cell (by simp [maxLen]) 0 (by simp)
  simp only [List.getElem?_cons_zero] at c0
  obtain ⟨qa, qc, rfl⟩ := own_form hD.safe
  rw [hD.count hw] at c0
  obtain ⟨e1, e2, e3⟩ := hw.len
  have hsl := secs_le len
  by_cases hc : d.n * 256 < len
  · have q1 : (d.n : Int) * 256 < (len : Int) := by omega
    have q0 : (d.n : Int) ≤ 4096 := by omega
    clear h hw hD hd hr hb
    go_enter Try.func33, Try.ntmps33
    go_wp2
    go_ret
    exact ⟨rfl, Below.refl _ _⟩
  · have q1 : ¬ (d.n : Int) * 256 < (len : Int) := by omega
    have q0 : (d.n : Int) ≤ 4096 := by omega
    have hs5 : secs len ≤ 5000 := by unfold secs; omega
    have HS : Hid _ := rsectors_any ab len cap lb w hl hle (by omega) hr
    have HT : Hid _ := fun (W : World) (hW : Below w.heap.size w W) => rthere_any g q r V d a (secs len : Nat) W (h.later hW) hw ha (by omega)
    rw [hb] at HT
    clear h hw hD hd hr hb e1 hl
    go_enter Try.func33, Try.ntmps33
    go_wp2_with fail
    refine (Calls.mono HS.out) ?_
    rintro e w1 ⟨v, V1, rfl, ok, hnew, b1⟩
    obtain ⟨va, vc, rfl⟩ : ∃ va vc, v = .slice va _ vc := by obtain ⟨vs, h, _⟩ := ok.holds; exact own_form h
    rw [chs_length]
    have B1 : Hid _ := b1
    clear ok hnew b1 HS
    go_wp2_with (go_at_call 45; refine (Calls.mono (HT.out _ B1.out)) ?_; rintro e w2 ⟨rfl, b2⟩)
    go_ret
    exact ⟨rfl, below_then B1.out b2⟩
set_option maxRecDepth 4000 in
set_option maxHeartbeats 1000000 in
theorem rWrite_ok (g : Nat) (q r : Option Nat) (V : List Nat) (d : Dm) (x : Nat) (ab : Option Addr) (cap : Nat) (lb : List (BitVec 8)) (w : World) (h : (rdk g q r V d).Ok w) (hw : d.Wf) (hgs : d.gs.length ≤ 1000000) (hd : d.gone = false) (hr : Row w ab lb) (hle : lb.length ≤ cap) (h1 : 1 ≤ lb.length) (h2 : x + secs lb.length ≤ d.n) :
    Calls Try.prog 33 #[.pointer (some ⟨g, 0, none⟩), .int .i64 x, .slice ab lb.length cap] w fun e w' => ∃ r' V', e = .returned (.int .i64 0) ∧ Step w w' (rdk g q r V d) (rdk g q r' V' { d with gs := d.gs ++ [(x, lb)] }) := by
  obtain ⟨c3, c4, -⟩ := rdk_cells h.holds
  rw [hd] at c4
  obtain ⟨hn, sv, lv, S, vs, ls, hq, hr', hD⟩ := h.holds
  have c0 := hD.blk.cell (by simp [maxLen]) 0 (by simp)
  have c1 := hD.blk.cell (by simp [maxLen]) 1 (by simp)
  simp only [List.getElem?_cons_succ, List.getElem?_cons_zero] at c0 c1
  have hcnt := hD.count hw
  obtain ⟨e1, e2, e3⟩ := hw.len
  have hsl := secs_le lb.length
  have q1 : ¬ (d.n : Int) * 256 < (lb.length : Int) := by omega
  have q0 : (d.n : Int) ≤ 4096 := by omega
  have hs5 : secs lb.length ≤ 5000 := by omega
  have HS : Hid _ := rsectors_any ab lb.length cap lb w rfl hle (by omega) hr
  have HT : Hid _ := fun (W : World) (hW : Below w.heap.size w W) => rthere_any g q r V d x (secs lb.length : Nat) W (h.later hW) hw (by omega) (by omega)
  rw [show hasB d.n x (secs lb.length : Nat) = true from decide_eq_true (by omega)] at HT
  have H0 : Hid _ := And.intro h (And.intro hD (And.intro hn (And.intro hq hr')))
  obtain ⟨qa, qc, hsv⟩ := own_form hD.safe
  rw [hsv, hcnt] at c0
  clear h hw hd hr e1 hn hq hr' hsv hcnt
  obtain ⟨la, lc, rfl⟩ := own_form hD.groups
  clear hD
  generalize hlen : lb.length = len at HS HT hsl q1 h1 h2 hs5 hle ⊢
  go_enter Try.func33, Try.ntmps33
  go_wp2_with fail
  refine (Calls.mono HS.out) ?_
  rintro e w1 ⟨v, V1, rfl, ok, hnew, b1⟩
  obtain ⟨va, vc, rfl⟩ : ∃ va vc, v = .slice va _ vc := by obtain ⟨vs, h, _⟩ := ok.holds; exact own_form h
  rw [chs_length] at ok hnew ⊢
  have B1 : Hid _ := And.intro b1 (And.intro ok hnew)
  clear ok hnew b1 HS
  go_wp2_with fail
  refine (Calls.mono (HT.out _ B1.out.1)) ?_
  rintro e w2 ⟨rfl, b2⟩
  have b12 := below_then B1.out.1 b2
  have x1 := cell_later b12 c1
  have b3 : Below w2.heap.size w2 (w2.alloc (.cells #[.int .i64 x, .slice va (secs len) vc] 73)) := (Below.refl _ _).alloc (Nat.le_refl _) _
  have bx := box_cells w2 (.int .i64 x) (.slice va (secs len) vc) 73
  have G3 : (w2.alloc (.cells #[.int .i64 x, .slice va (secs len) vc] 73)).ownsRow 0 73 2 (.slice la d.gs.length lc) d.gs.length ls := by
    obtain ⟨h, hD, hn, hq, hr'⟩ := H0.out
    refine ownsRow_same hD.groups (fun k hk => ?_)
    have hkl : k < w.heap.size := h.lt k (.inl (by rw [hr'] at hk; simp [rdk, hk]))
    exact (below_then b12 b3).block k hkl
  have HG : Hid _ := And.intro G3 (And.intro bx (below_then b2 b3))
  clear b12 b3 bx G3 b2 HT c0 c1 c3 c4
  go_wp2_with (at_builtin; refine wpList_append_rgroup _ rfl _ _ rfl (.slice la d.gs.length lc) d.gs.length ls rfl HG.out.1 w2.heap.size (.int .i64 x) (.slice va (secs len) vc) rfl HG.out.2.1.1 HG.out.2.1.2 rfl rfl hgs ?_)
  intro lv' w5 hown hg5 hor
  obtain ⟨a', c', rfl⟩ := own_form hown
  obtain ⟨h, hD, hn, hq, hr'⟩ := H0.out
  obtain ⟨b1, ok1, hnew⟩ := B1.out
  rw [← hlen] at ok1 hnew hown
  obtain ⟨t1, t2, st⟩ := rwrote h hD hn hq hr' b1 ok1 hnew HG.out.2.2 hown hg5 (by have hz : (w2.alloc (.cells #[.int .i64 x, .slice va (secs len) vc] 73)).heap.size = w2.heap.size + 1 := (by simp); rw [hz]; exact hor)
  have F : Hid _ := st
  clear h hD hn hq hr' b1 ok1 hnew HG hown hg5 hor st H0 B1 x1
  go_wp2
  go_ret
  exact ⟨_, _, rfl, F.out⟩
theorem rWrite_any (g : Nat) (q r : Option Nat) (V : List Nat) (d : Dm) (n : Int) (ab : Option Addr) (len cap : Nat) (lb : List (BitVec 8)) (w : World) (h : (rdk g q r V d).Ok w) (hw : d.Wf) (hl : lb.length = len) (hr : Row w ab lb) (hle : len ≤ cap) (hm : len ≤ 140737488355328) (hnn : -9223372036854775808 ≤ n ∧ n ≤ 9223372036854775807) (hgs : d.gs.length ≤ 1000000) :
    Calls Try.prog 33 #[.pointer (some ⟨g, 0, none⟩), .int .i64 n, .slice ab len cap] w fun e w' => ∃ q' r' V', e = .returned (.int .i64 (wrD d n lb).2) ∧ Step w w' (rdk g q r V d) (rdk g q' r' V' (wrD d n lb).1) := by
  subst hl
  cases hd : d.gone with
  | true =>
    have e : wrD d n lb = (d, 21) := by unfold wrD; rw [if_pos hd]
    rw [e]
    refine (rWrite_dead g q r V d n _ w h hd).mono ?_
    rintro e w' ⟨rfl, rfl⟩
    exact ⟨q, r, V, rfl, Step.refl h⟩
  | false =>
    cases hb : hasB d.n n (secs lb.length : Nat) with
    | false =>
      have e : wrD d n lb = (d, 1) := by unfold wrD; rw [hd, hb]; rfl
      rw [e]
      refine (rWrite_arg g q r V d n ab lb.length cap lb w h hw hd rfl hr hle hm hnn hb).mono ?_
      rintro e w' ⟨rfl, hb'⟩
      exact ⟨q, r, V, rfl, Step.quiet h hb'⟩
    | true =>
      have e : wrD d n lb = ({ d with gs := d.gs ++ [(n.toNat, lb)] }, 0) := by unfold wrD; rw [hd, hb]; rfl
      rw [e]
      obtain ⟨h1, h2, h3⟩ := hasB_at hb
      have := rWrite_ok g q r V d n.toNat ab cap lb w h hw hgs hd hr hle h1 h3
      rw [← h2] at this
      refine this.mono ?_
      rintro e w' ⟨r', V', rfl, st⟩
      exact ⟨q, r', V', rfl, st⟩
end Go.Proofs.Ytmhnlfgakpelkaa
