/- An image as bytes. -/
import Derived.Test.YtmkacgdbmojomaaXEx5
import Derived.Test.YtmkacgdbmojomaaXRnd
namespace Go.Proofs.Ytmkacgdbmojomaa
open Go.RowKit Go.MapKept Go.ChangeMaps Go.Shelf
set_option linter.unusedVariables false
set_option maxRecDepth 4000
attribute [local go_sem] Oper.semAt_some

theorem wr2 (L : List (BitVec 8)) (n : Int) (h : 0 ≤ n ∧ n ≤ 256) : wrNum L 0 2 n = (L ++ be 2 (BitVec.ofInt 64 n), 0) := by
  unfold wrNum wnE
  rw [if_pos rfl, if_pos]
  · rfl
  · rw [if_neg (by decide), if_neg (by decide), if_neg]
    show ¬ (n < -(2 ^ 15) ∨ 2 ^ 16 - 1 < n)
    omega
/-- blocks with their numbers ahead -/
def encAll (m : Im) (l : List Nat) : List (BitVec 8) := l.flatMap (fun i : Nat => be 2 (BitVec.ofInt 64 (i : Int)) ++ m.get (i : Int))
theorem encAll_append (m : Im) (a b : List Nat) : encAll m (a ++ b) = encAll m a ++ encAll m b := by unfold encAll; exact List.flatMap_append
theorem encAll_len {m : Im} (h : m.Wf) (l : List Nat) : (encAll m l).length = l.length * 66 := by
  induction l with
  | nil => rfl
  | cons i l ih => unfold encAll at *; rw [List.flatMap_cons, List.length_append, ih, List.length_append, be_length _ _ (by omega), h.get_len, List.length_cons]; omega
def headE (m : Im) : List (BitVec 8) := be 2 (BitVec.ofInt 64 (m.n : Int)) ++ be 2 (BitVec.ofInt 64 (m.used : Int))
def bytesM (m : Im) : List (BitVec 8) := headE m ++ encAll m (expand (rnN m m.n))
/-- nothing panics -/
def calmQ (Q : Exit → Act → World → Prop) : Exit → Act → World → Prop
  | .panic _, _, _ => False
  | .normal, a, w => Q .normal a w
  | .ret, a, w => Q .ret a w
  | .exit i, a, w => Q (.exit i) a w
  | .goto i, a, w => Q (.goto i) a w
  | .outgrown, a, w => Q .outgrown a w
theorem calmQ_out {Q : Exit → Act → World → Prop} {e : Exit} {a : Act} {w : World} (h : calmQ Q e a w) : Q e a w := by
  cases e <;> first | exact h | exact h.elim
/-- the variables of Bytes: the image and the writer -/
structure SB (g b : Nat) (m : Im) (q1 q3 gw : Nat) (W : World) : Prop where
  ok : (im g b m).Ok W
  b1 : Blk W q1 23 [.pointer (some ⟨g, 0, none⟩)]
  b3 : Blk W q3 70 [.pointer (some ⟨gw, 0, none⟩)]
theorem SB.drew {g b : Nat} {m : Im} {q1 q3 gw : Nat} {W : World} (h : SB g b m q1 q3 gw W) : SB g b m q1 q3 gw W.drew := ⟨h.ok.drew, h.b1, h.b3⟩
theorem SB.cells {g b : Nat} {m : Im} {q1 q3 gw : Nat} {W : World} (h : SB g b m q1 q3 gw W) : W.cell? ⟨q1, 0, none⟩ = some (.pointer (some ⟨g, 0, none⟩)) ∧ W.cell? ⟨q3, 0, none⟩ = some (.pointer (some ⟨gw, 0, none⟩)) := by
  have c0 := h.b1.cell (by simp [maxLen]) 0 (by simp)
  have c1 := h.b3.cell (by simp [maxLen]) 0 (by simp)
  simp only [List.getElem?_cons_zero] at c0 c1
  exact ⟨c0, c1⟩
theorem not_mine {w : World} {base g T : Nat} {v : Value} {L : List (BitVec 8)} {E : Int} (h : WrAt w base g T v L E) {k T' : Nat} {xs : List Value} (hB : Blk w k T' xs) (hT : T' ≠ 5) (hk : k ≠ g) : ¬ Mine g v k := by
  obtain ⟨lo, ho, -⟩ := h.own
  rintro (e | e)
  · exact hk e
  · exact own_apart ho hB hT _ e rfl
theorem WrAt.below' {w w' : World} {base g T : Nat} {v : Value} {L : List (BitVec 8)} {E : Int} (h : WrAt w base g T v L E) (ht : Turned (Mine g v) w w') : Below base w w' :=
  ht.below base h.base_w (fun k hk => by
    rcases hk with rfl | hk
    · exact h.base_g
    · obtain ⟨l, ho, -⟩ := h.own; exact (World.ownsRow.lt ho k hk).1)
theorem SB.turned {g b : Nat} {m : Im} {q1 q3 gw : Nat} {W W' : World} {base : Nat} {v : Value} {L : List (BitVec 8)} (h : SB g b m q1 q3 gw W) (hW : WrAt W base gw 104 v L 0) (ht : Turned (Mine gw v) W W') (n1 : q1 ≠ gw) (n3 : q3 ≠ gw) (ng : g ≠ gw) : SB g b m q1 q3 gw W' := by
  refine ⟨h.ok.turned ht (fun k hk => ?_), h.b1.turned ht (not_mine hW h.b1 (by decide) n1), h.b3.turned ht (not_mine hW h.b3 (by decide) n3)⟩
  obtain ⟨h1, h2, es, clock, h3, h4⟩ := h.ok.holds
  rcases hk with hk | hk
  · obtain rfl : k = b := by simpa [im] using hk
    obtain ⟨lo, ho, -⟩ := hW.own
    rintro (e | e)
    · subst e
      have := hW.blk
      unfold Blk at this
      rw [h3] at this; cases this
    · obtain ⟨_, ⟨rfl, _⟩ | ⟨g', cap, cur, rfl, hb, hh, r⟩⟩ := ho
      · cases e
      · cases e
        rw [h3] at hh; cases hh
  · obtain rfl : k = g := by simpa [im] using hk
    exact not_mine hW h2 (by decide) ng

/-- a block of cells that is not the writer's -/
def Stay (gw : Nat) (W : World) (k : Nat) : Prop := k ≠ gw ∧ ∃ T' xs, T' ≠ 5 ∧ Blk W k T' xs
theorem Stay.lt {gw k : Nat} {W : World} (h : Stay gw W k) : k < W.heap.size := by obtain ⟨_, T', xs, _, hB⟩ := h; exact hB.lt
theorem Stay.keep {gw k : Nat} {W W' : World} {base : Nat} {v : Value} {L : List (BitVec 8)} (h : Stay gw W k) (hW : WrAt W base gw 104 v L 0) (ht : Turned (Mine gw v) W W') : Stay gw W' k ∧ W'.heap[k]? = W.heap[k]? := by
  obtain ⟨hk, T', xs, hT, hB⟩ := h
  have hn := not_mine hW hB hT hk
  exact ⟨⟨hk, T', xs, hT, hB.turned ht hn⟩, ht.block k hB.lt hn⟩
theorem stay_start {w w' : World} {cb gw : Nat} {ra : Option Addr} {n rcap : Nat} {l : List (Nat × Nat)} (hc : w.heap.size ≤ cb) (hg : gw < w.heap.size) (hB : Blk w' cb 109 [.slice ra n rcap]) (ho : RsOwn w' w.heap.size (.slice ra n rcap) l) : ∀ k ∈ cb :: (Value.slice ra n rcap).ownBlock.toList, Stay gw w' k := by
  intro k hk
  rcases List.mem_cons.1 hk with rfl | hk
  · exact ⟨by omega, _, _, by decide, hB⟩
  · obtain ⟨h1, ⟨h2, h3⟩ | ⟨g', cap', cur, hv, hb, hh, r⟩⟩ := ho
    · cases h2; simp [Value.ownBlock] at hk
    · rw [hv] at hk
      obtain rfl : k = g' := by simpa [Value.ownBlock] using hk
      exact ⟨by omega, _, cur.toList, (show 112 ≠ 5 by decide), by unfold Blk; rw [hh]⟩
theorem rs_low {w : World} {base : Nat} {v : Value} {l : List (Nat × Nat)} (h : RsOwn w base v l) : RsOwn w 0 v l :=
  ⟨h.1, h.2.imp id fun ⟨g, cap, cur, h1, h2, h3⟩ => ⟨g, cap, cur, h1, Nat.zero_le _, h3⟩⟩
theorem expand_len (pre : List Run) : (expand (pre.map (·.1))).length ≤ pre.length * 256 := by
  induction pre with
  | nil => simp [expand]
  | cons r pre ih =>
    have := r.2
    unfold expand at *
    rw [List.map_cons, List.flatMap_cons, List.length_append, List.length_range', List.length_cons]
    omega
theorem own_put {w : World} {base D : Nat} {v : Value} {l : List (BitVec 8)} {o : Obj} (h : Own w base v l) (hk : ∀ k, v.ownBlock = some k → k ≠ D) : Own (w.putObj D o) base v l :=
  h.same (fun k hv => World.putObj_heap_other (hk k hv))
/-- a round that goes on -/
def roundQ (R : World → Prop) : Exit → Act → World → Prop
  | .normal, _, W' => R W'
  | _, _, _ => False
/-- between two runs -/
def BI (base g b : Nat) (m : Im) (q1 q3 gw : Nat) (ks : List Nat) (L : List (BitVec 8)) (w W : World) : Prop :=
  ∃ v, WrAt W base gw 104 v L 0 ∧ SB g b m q1 q3 gw W ∧ (∀ k ∈ ks, Stay gw W k) ∧ Below w.heap.size w W
theorem blk_not {A : World} {k T' : Nat} {xs : List Value} {o : Obj} (hB : Blk A k T' xs) (ho : A.heap[k]? = some o) (hc : o.isCells = false) : False := by
  unfold Blk at hB
  rw [hB] at ho
  cases ho
  simp [Obj.isCells] at hc
theorem wr_not {A : World} {base gw : Nat} {v : Value} {L : List (BitVec 8)} {k : Nat} {o : Obj} (hW : WrAt A base gw 104 v L 0) (hm : Mine gw v k) (ho : A.heap[k]? = some o) (hc : o.isCells = false) : False := by
  rcases hm with rfl | hm
  · exact blk_not hW.blk ho hc
  · obtain ⟨lo, hO, -⟩ := hW.own
    obtain ⟨_, ⟨rfl, _⟩ | ⟨g', cap, cur, rfl, hb, hh, r⟩⟩ := hO
    · cases hm
    · cases hm
      rw [hh] at ho; cases ho
      simp [Obj.isCells] at hc
theorem bi_own {base g b : Nat} {m : Im} {q1 q3 gw : Nat} {ks : List Nat} {f : List Run → List (BitVec 8)} {w x6 : World} (hbl : b < x6.heap.size) (hz : w.heap.size ≤ x6.heap.size) : OwnFrom x6.heap.size (fun pre W => BI base g b m q1 q3 gw ks (f pre) w W) := by
  rintro s A B row ⟨v, hW, hS, hK, hb⟩ hg hr
  have ht : Turned (fun k => row = some k) A B := turned_grown hg (fun k e => e)
  refine ⟨v, hW.stays ht (fun e => ?_) (fun k hk e => ?_), ⟨hS.ok.turned ht (fun k hk e => ?_), hS.b1.turned ht (fun e => ?_), hS.b3.turned ht (fun e => ?_)⟩, fun k hk => ?_, hb.grown hg hb.size (fun k e => Nat.le_trans hz (hr k e).1)⟩
  · obtain ⟨_, o, ho, hc⟩ := hr _ e; exact blk_not hW.blk ho hc
  · obtain ⟨_, o, ho, hc⟩ := hr _ e; exact wr_not hW (.inr hk) ho hc
  · obtain ⟨h6, o, ho, hc⟩ := hr _ e
    rcases hk with hk | hk
    · obtain rfl : k = b := by simpa [im] using hk
      omega
    · obtain rfl : k = g := by simpa [im] using hk
      obtain ⟨h1, h2, _⟩ := hS.ok.holds
      exact blk_not h2 ho hc
  · obtain ⟨_, o, ho, hc⟩ := hr _ e; exact blk_not hS.b1 ho hc
  · obtain ⟨_, o, ho, hc⟩ := hr _ e; exact blk_not hS.b3 ho hc
  · obtain ⟨hk1, T', xs, hT, hB⟩ := hK k hk
    exact ⟨hk1, T', xs, hT, hB.turned ht (fun e => by obtain ⟨_, o, ho, hc⟩ := hr _ e; exact blk_not hB ho hc)⟩
theorem keepsFrom_wr {A A' : World} {base gw B : Nat} {v : Value} {L : List (BitVec 8)} (hW : WrAt A base gw 104 v L 0) (ht : Turned (Mine gw v) A A') : KeepsFrom B A A' :=
  ⟨ht.size, fun k o _ hk ho => (ht.block k (Array.getElem?_eq_some_iff.1 hk).1 (fun hm => wr_not hW hm hk ho)).trans hk⟩

set_option maxHeartbeats 4000000 in
theorem imBytes_any (g b : Nat) (m : Im) (w : World) (h : (im g b m).Ok w) (hw : m.Wf) :
    Calls Try.prog 10 #[.pointer (some ⟨g, 0, none⟩)] w fun e w' => ∃ v, e = .returned v ∧ Own w' w.heap.size v (bytesM m) ∧ Below w.heap.size w w' := by
  have hm := hw.most
  have hu := m.used_le
  have hgl : g < w.heap.size := h.lt g (.inr (by simp [im]))
  refine (callsIn_wide (n := 9)).1 ?_
  refine callsIn_of_wp_marks Try.func10 rfl trivial ?_ rfl
  simp only [Try.ntmps10, List.size_toArray, List.length_cons, List.length_nil, Nat.reduceAdd, Nat.reduceSub, Array.replicate_succ, Array.replicate_zero, List.push_toArray, List.append_toArray, List.nil_append, List.cons_append]
  refine wpIn_wide.2 (wp_mono (Q := calmQ (bodyPostM Fence.wide 9 Try.prog Try.f10 fun e w' => ∃ v, e = .returned v ∧ Own w' w.heap.size v (bytesM m) ∧ Below w.heap.size w w')) ?_ (fun e a w h => calmQ_out h))
  have B1 : Blk (w.alloc (.cells #[.pointer (some ⟨g, 0, none⟩)] 23)) w.heap.size 23 [.pointer (some ⟨g, 0, none⟩)] := Blk.new' w _ _
  have b1 : Below w.heap.size w (w.alloc (.cells #[.pointer (some ⟨g, 0, none⟩)] 23)) := (Below.refl _ _).alloc (Nat.le_refl _) _
  have z1 : (w.alloc (.cells #[.pointer (some ⟨g, 0, none⟩)] 23)).heap.size = w.heap.size + 1 := by simp
  have c1 := B1.cell (by simp [maxLen]) 0 (by simp)
  simp only [List.getElem?_cons_zero] at c1
  have H1 : Hid _ := And.intro B1 (And.intro b1 (And.intro z1 (And.intro h hw)))
  clear B1 b1 h hw z1
  go_wp2_with fail
  generalize w.alloc (.cells #[.pointer (some ⟨g, 0, none⟩)] 23) = w1 at *
  refine (NewWriter_any w1.heap.size w1 (Nat.le_refl _)).mono ?_
  rintro e w2 ⟨gw, rfl, hgw, W2, b2⟩
  have B3 : Blk (w2.alloc (.cells #[.pointer (some ⟨gw, 0, none⟩)] 70)) w2.heap.size 70 [.pointer (some ⟨gw, 0, none⟩)] := Blk.new' w2 _ _
  have b3 : Below w2.heap.size w2 (w2.alloc (.cells #[.pointer (some ⟨gw, 0, none⟩)] 70)) := (Below.refl _ _).alloc (Nat.le_refl _) _
  have gwl := W2.blk.lt
  have S3 : SB g b m w.heap.size w2.heap.size gw (w2.alloc (.cells #[.pointer (some ⟨gw, 0, none⟩)] 70)) := ⟨((H1.out.2.2.2.1.later H1.out.2.1).later b2).later b3, (H1.out.1.laterB b2).laterB b3, B3⟩
  have W3 := W2.stays (turned_below b3) (fun h => h) (fun _ _ h => h)
  have hz1 := H1.out.2.2.1
  have n1 : w.heap.size ≠ gw := by omega
  have n3 : w2.heap.size ≠ gw := by omega
  have ng : g ≠ gw := by omega
  have bb3 := below_then (below_then H1.out.2.1 b2) b3
  have zz3 : gw < (w2.alloc (.cells #[.pointer (some ⟨gw, 0, none⟩)] 70)).heap.size := Nat.lt_of_lt_of_le gwl b3.size
  have H3 : Hid _ := And.intro S3 (And.intro W3 (And.intro bb3 (And.intro H1.out.2.2.2.2 zz3)))
  clear B3 b3 S3 W3 W2 b2 c1 bb3 zz3
  go_wp2_with fail
  generalize w2.alloc (.cells #[.pointer (some ⟨gw, 0, none⟩)] 70) = w3 at *
  have N4 := wNum_any w1.heap.size gw _ [] 0 2 (m.n : Int) w3.drew (H3.out.2.1.stays (turned_below (Below.refl _ _).drew) (fun h => h) (fun _ _ h => h)) (by simp)
  rw [wr2 _ _ (by omega)] at N4
  have HN4 : Hid _ := N4
  clear N4
  have Sd : SB g b m w.heap.size w2.heap.size gw w3.drew := H3.out.1.drew
  refine wp_region_held_drew (S := fun W => SB g b m w.heap.size w2.heap.size gw W) (by kernel_rfl) Sd (fun hS => ?_)
  refine any_take (i := 0) (v := .pointer (some ⟨gw, 0, none⟩)) rfl (by kernel_rfl) (by kernel_rfl) (by kernel_rfl) (by exact fun _ _ _ h => h) (by rfl) ?_ hS ?_
  · intro W hSW; have c := hSW.cells.2; go_simp
  (try simp only [Act.put, List.setIfInBounds_toArray, List.set_cons_zero, List.set_cons_succ])
  refine any_take (i := 1) (v := .pointer (some ⟨g, 0, none⟩)) rfl (by kernel_rfl) (by kernel_rfl) (by kernel_rfl) (by exact fun _ _ _ h => h) (by rfl) ?_ hS ?_
  · intro W hSW; have c := hSW.cells.1; go_simp
  (try simp only [Act.put, List.setIfInBounds_toArray, List.set_cons_zero, List.set_cons_succ])
  refine any_take (i := 2) (v := ?_) rfl (by kernel_rfl) (by kernel_rfl) (by kernel_rfl) (by exact fun _ _ _ h => h) (by rfl) ?_ hS ?_
  rotate_left
  · ((intro w hSw; (try dsimp only at hSw); go_simp) <;> with_reducible rfl)
  (try simp only [Act.put, List.setIfInBounds_toArray, List.set_cons_zero, List.set_cons_succ])
  refine any_take (i := 3) (v := ?_) rfl (by kernel_rfl) (by kernel_rfl) (by kernel_rfl) (by exact fun _ _ _ h => h) (by rfl) ?_ hS ?_
  rotate_left
  · ((intro w hSw; (try dsimp only at hSw); go_simp) <;> with_reducible rfl)
  (try simp only [Act.put, List.setIfInBounds_toArray, List.set_cons_zero, List.set_cons_succ])
  refine any_take (i := 4) (v := .int .i64 (m.n : Int)) rfl (by kernel_rfl) (by kernel_rfl) (by kernel_rfl) (by exact fun _ _ _ h => h) (by rfl) ?_ hS ?_
  · intro W hSW; have c := (im_cells hSW.ok).1; go_simp
  (try simp only [Act.put, List.setIfInBounds_toArray, List.set_cons_zero, List.set_cons_succ])
  refine any_one (i := 5) rfl (by kernel_rfl) (fun K hK => ?_)
  go_simp
  refine (Calls.mono (HN4.out)) ?_
  rintro e x4 ⟨rfl, v4, W4, N4, T4⟩
  have S4 := Sd.turned (H3.out.2.1.stays (turned_below (Below.refl _ _).drew) (fun h => h) (fun _ _ h => h)) T4 n1 n3 ng
  go_wp2_with fail
  refine hK.out _ _ S4 ?_
  clear hK K hS
  refine wpAnyH_done (by kernel_rfl) ?_ _
  have b34 : Below w1.heap.size w3 x4 := ((Below.refl _ w3).drew).trans (WrAt.below' (H3.out.2.1.stays (turned_below (Below.refl _ _).drew) (fun h => h) (fun _ _ h => h)) T4)
  have bb4 : Below w.heap.size w x4 := H3.out.2.2.1.trans (b34.mono H1.out.2.1.size)
  have zz4 : gw < x4.heap.size := Nat.lt_of_lt_of_le H3.out.2.2.2.2 (Nat.le_trans (Below.refl w3.heap.size w3).drew.size T4.size)
  have H4 : Hid _ := And.intro S4 (And.intro W4 (And.intro bb4 (And.intro H3.out.2.2.2.1 zz4)))
  clear S4 W4 N4 T4 b34 bb4 zz4 H3 HN4 Sd
  go_wp2_with fail
  have hlen : ∀ W, SB g b m w.heap.size w2.heap.size gw W → (Builtin.len_ #[59] 3 #[.map (some b)]).run Try.prog W = .ok (.int .i64 (m.used : Int)) W := fun W hW => by obtain ⟨h1, h2, es, clock, h3, h4⟩ := hW.ok.holds; rw [h4.len (P := Try.prog) und_map h3 3, im_used h4 H4.out.2.2.2.1]
  have N5 := wNum_any w1.heap.size gw _ _ 0 2 (m.used : Int) x4.drew (H4.out.2.1.stays (turned_below (Below.refl _ _).drew) (fun h => h) (fun _ _ h => h)) (by simp [be_length])
  rw [wr2 _ _ (by omega)] at N5
  have HN5 : Hid _ := And.intro N5 hlen
  clear N5 hlen
  have Sd : SB g b m w.heap.size w2.heap.size gw x4.drew := H4.out.1.drew
  refine wp_region_held_drew (S := fun W => SB g b m w.heap.size w2.heap.size gw W) (by kernel_rfl) Sd (fun hS => ?_)
  refine any_take (i := 0) (v := .pointer (some ⟨gw, 0, none⟩)) rfl (by kernel_rfl) (by kernel_rfl) (by kernel_rfl) (by exact fun _ _ _ h => h) (by rfl) ?_ hS ?_
  · intro W hSW; have c := hSW.cells.2; go_simp
  (try simp only [Act.put, List.setIfInBounds_toArray, List.set_cons_zero, List.set_cons_succ])
  refine any_take (i := 1) (v := .pointer (some ⟨g, 0, none⟩)) rfl (by kernel_rfl) (by kernel_rfl) (by kernel_rfl) (by exact fun _ _ _ h => h) (by rfl) ?_ hS ?_
  · intro W hSW; have c := hSW.cells.1; go_simp
  (try simp only [Act.put, List.setIfInBounds_toArray, List.set_cons_zero, List.set_cons_succ])
  refine any_take (i := 2) (v := ?_) rfl (by kernel_rfl) (by kernel_rfl) (by kernel_rfl) (by exact fun _ _ _ h => h) (by rfl) ?_ hS ?_
  rotate_left
  · ((intro w hSw; (try dsimp only at hSw); go_simp) <;> with_reducible rfl)
  (try simp only [Act.put, List.setIfInBounds_toArray, List.set_cons_zero, List.set_cons_succ])
  refine any_take (i := 3) (v := ?_) rfl (by kernel_rfl) (by kernel_rfl) (by kernel_rfl) (by exact fun _ _ _ h => h) (by rfl) ?_ hS ?_
  rotate_left
  · ((intro w hSw; (try dsimp only at hSw); go_simp) <;> with_reducible rfl)
  (try simp only [Act.put, List.setIfInBounds_toArray, List.set_cons_zero, List.set_cons_succ])
  refine any_take (i := 4) (v := .map (some b)) rfl (by kernel_rfl) (by kernel_rfl) (by kernel_rfl) (by exact fun _ _ _ h => h) (by rfl) ?_ hS ?_
  · intro W hSW; have c := (im_cells hSW.ok).2; go_simp
  (try simp only [Act.put, List.setIfInBounds_toArray, List.set_cons_zero, List.set_cons_succ])
  refine any_take (i := 5) (v := .int .i64 (m.used : Int)) rfl (by kernel_rfl) (by kernel_rfl) (by kernel_rfl) (by exact fun _ _ _ h => h) (by rfl) ?_ hS ?_
  · intro W hSW; have c := HN5.out.2 W hSW; go_simp
  (try simp only [Act.put, List.setIfInBounds_toArray, List.set_cons_zero, List.set_cons_succ])
  refine any_one (i := 6) rfl (by kernel_rfl) (fun K hK => ?_)
  go_simp
  refine (Calls.mono (HN5.out.1)) ?_
  rintro e x5 ⟨rfl, v5, W5, N5, T5⟩
  have S5 := Sd.turned (H4.out.2.1.stays (turned_below (Below.refl _ _).drew) (fun h => h) (fun _ _ h => h)) T5 n1 n3 ng
  go_wp2_with fail
  refine hK.out _ _ S5 ?_
  clear hK K hS
  refine wpAnyH_done (by kernel_rfl) ?_ _
  have b45 : Below w1.heap.size x4 x5 := ((Below.refl _ x4).drew).trans (WrAt.below' (H4.out.2.1.stays (turned_below (Below.refl _ _).drew) (fun h => h) (fun _ _ h => h)) T5)
  have bb5 : Below w.heap.size w x5 := H4.out.2.2.1.trans (b45.mono H1.out.2.1.size)
  have zz5 : gw < x5.heap.size := Nat.lt_of_lt_of_le H4.out.2.2.2.2 (Nat.le_trans (Below.refl x4.heap.size x4).drew.size T5.size)
  have H5 : Hid _ := And.intro S5 (And.intro W5 (And.intro bb5 (And.intro H4.out.2.2.2.1 zz5)))
  obtain ⟨c1, c3⟩ := S5.cells
  have HRn : Hid _ := Runs_any g b m x5 S5.ok H4.out.2.2.2.1
  clear S5 W5 N5 T5 b45 bb5 zz5 H4 HN5 Sd
  go_wp2_with fail
  refine (Calls.mono HRn.out) ?_
  rintro e x6 ⟨cb, rv, rfl, hcb, Bc, ho6, b6⟩
  obtain ⟨ra, rcap, rfl, hrc, -⟩ := ho6.open
  clear c1 c3
  go_wp2_with fail
  clear hz1
  have hrl := rn_len m m.n
  have W6 := H5.out.2.1.stays (turned_below b6) (fun h => h) (fun _ _ h => h)
  have S6 : SB g b m w.heap.size w2.heap.size gw x6 := ⟨H5.out.1.ok.later b6, H5.out.1.b1.laterB b6, H5.out.1.b3.laterB b6⟩
  have bb6 := below_then H5.out.2.2.1 b6
  have hbl : b < x6.heap.size := H5.out.1.ok.later b6 |>.lt b (.inl (by simp [im]))
  have hk6 : ∀ k ∈ cb :: (Value.slice ra (rnN m m.n).length rcap).ownBlock.toList, Stay gw x6 k := stay_start hcb H5.out.2.2.2.2 Bc ho6
  have hk7 : ∀ k ∈ cb :: (Value.slice ra (rnN m m.n).length rcap).ownBlock.toList, k < x6.heap.size := fun k hk => (hk6 k hk).lt
  have hsq := seq_stops 8 (by omega) cb ra rcap (rnN m m.n) x6 (fun r hr => Nat.le_trans (rn_bound m m.n r hr).1 hm) (by omega) Bc (rs_low ho6)
  have hwf := H5.out.2.2.2.1
  have hz6 : w.heap.size ≤ x6.heap.size := bb6.size
  generalize cb :: (Value.slice ra (rnN m m.n).length rcap).ownBlock.toList = ks at *
  refine (wpIn_wide (n := 9)).1 ?_
  refine wpIn_rangeFunc_ownG rfl (by omega) (gf := 66) (lb := #[.pointer (some ⟨cb, 0, none⟩)]) rfl trivial (enters_of Try.func66 (by kernel_rfl) rfl) hsq (fun h k => h.t k) (fun W l o o' hl h _ _ k hk => World.putObj_heap_other (by have := hk7 k hk; omega)) (Below.refl _ _) (fun _ => rfl) (fun pre W => BI w1.heap.size g b m w.heap.size w2.heap.size gw ks (headE m ++ encAll m (expand (pre.map (·.1)))) w W) (fun _ _ _ => False) (bi_own hbl hz6) (fun _ _ _ _ _ hs _ _ => hs) ⟨v5, by simpa [headE, expand, encAll] using W6, S6, hk6, bb6⟩ (fun x => { tmps := #[.pointer (some ⟨g, 0, none⟩), .pointer (some ⟨w.heap.size, 0, none⟩), .slice none 0 0, .pointer (some ⟨w2.heap.size, 0, none⟩), .int .i64 (x.1.1 : Int), .int .i64 (x.1.2 : Int), undef, undef, undef, .pointer (some ⟨g, 0, none⟩), .bool false, .pointer (some ⟨gw, 0, none⟩), .pointer (some ⟨gw, 0, none⟩), .pointer (some ⟨g, 0, none⟩), .pointer (some ⟨g, 0, none⟩), .pointer (some ⟨g, 0, none⟩), .int .i64 (m.n : Int), .tuple #[], .pointer (some ⟨gw, 0, none⟩), .pointer (some ⟨g, 0, none⟩), .pointer (some ⟨g, 0, none⟩), .pointer (some ⟨g, 1, none⟩), .map (some b), .int .i64 (m.used : Int), .tuple #[], .pointer (some ⟨g, 0, none⟩), .func (.func 66) #[] #[.pointer (some ⟨cb, 0, none⟩)], .int .i64 (x.1.1 : Int), .int .i64 (x.1.2 : Int), undef, undef, undef, undef, undef, undef, undef, undef, undef, undef, undef, undef, undef, undef, undef, undef, undef, undef, undef, undef, undef, undef, undef, undef, undef], defers := [] }) ?assign ?body ?done ?stop
  case assign =>
    intro l x W K hK
    simp only [encR]
    gi_wp2
    exact hK
  case body =>
    rintro l pre x W ⟨v, hW, hS, hK, hb⟩ hlt
    have hpl := expand_len pre
    have hel := encAll_len hwf (expand (pre.map (·.1)))
    have hhl : (headE m).length = 4 := by unfold headE; rw [List.length_append, be_length _ _ (by omega), be_length _ _ (by omega)]
    obtain ⟨⟨rf, rc⟩, hrx⟩ := x
    have hL : (headE m ++ encAll m (expand (pre.map (·.1)))).length ≤ 5000000 := by rw [List.length_append, hhl, hel]; omega
    have eL : headE m ++ encAll m (expand ((pre ++ [(⟨(rf, rc), hrx⟩ : Run)]).map (·.1))) = (headE m ++ encAll m (expand (pre.map (·.1)))) ++ encAll m (List.range' rf rc) := by rw [List.map_append, List.map_singleton, expand_snoc, encAll_append, List.append_assoc]
    refine wpIn_mono (Q := roundQ (fun W' => ∃ v', WrAt W' w1.heap.size gw 104 v' ((headE m ++ encAll m (expand (pre.map (·.1)))) ++ encAll m (List.range' rf rc)) 0 ∧ SB g b m w.heap.size w2.heap.size gw W' ∧ (∀ k ∈ ks, Stay gw W' k) ∧ Turned (Mine gw v) W W' ∧ KeepB ks W W')) ?_ ?_
    rotate_left
    · rintro e a W' h
      cases e <;> first | exact h.elim | skip
      obtain ⟨v', h1, h2, h3, h4, h5⟩ := h
      exact ⟨keepsFrom_wr hW h4, h5, v', by rw [eL]; exact h1, h2, h3, hb.trans ((WrAt.below' hW h4).mono H1.out.2.1.size)⟩
    generalize headE m ++ encAll m (expand (pre.map (·.1))) = L at *
    simp only at hrx
    have HI : Hid _ := And.intro hW (And.intro hS (And.intro hK hb))
    clear hW hS hK hb hpl hel hhl eL hsq
    have q0 : (rf : Int) + (rc : Int) ≤ 256 := by omega
    gi_wp2
    gi_loopw [6] (fun p wr => ∃ (j : Nat) (v' : Value), j ≤ rc ∧ p = .int .i64 ((rf + j : Nat) : Int) ∧ WrAt wr w1.heap.size gw 104 v' (L ++ encAll m (List.range' rf j)) 0 ∧ SB g b m w.heap.size w2.heap.size gw wr ∧ (∀ k ∈ ks, Stay gw wr k) ∧ Turned (Mine gw v) W wr ∧ Newer W v v' ∧ KeepB ks W wr) (fun p _ => rf + rc - (intOf p).toNat)
    case atStart =>
      exact ⟨0, v, Nat.zero_le _, rfl, by simpa [encAll] using HI.out.1, HI.out.2.1, HI.out.2.2.1, turned_refl _ _, fun k hk => .inl hk, fun _ _ => rfl⟩
    case round =>
      obtain ⟨j, v', hj, rfl, hW, hS, hK, hT, hN, hKp⟩ := hrel
      by_cases hlt : j < rc
      · obtain ⟨c1, c3⟩ := hS.cells
        have q1 : ((rf + j : Nat) : Int) < (rf : Int) + (rc : Int) := by omega
        have hln := encAll_len hwf (List.range' rf j)
        rw [List.length_range'] at hln
        have N7 := wNum_any w1.heap.size gw v' _ 0 2 ((rf + j : Nat) : Int) wr hW (by rw [List.length_append, hln]; omega)
        rw [wr2 _ _ (by omega)] at N7
        have e0 : ((rf + j : Nat) : Int) = (rf : Int) + (j : Int) := by omega
        rw [e0] at N7
        have H7 : Hid _ := And.intro hW (And.intro hS (And.intro hK (And.intro hT (And.intro hN (And.intro hKp N7)))))
        clear hW hS hK hT hN hKp N7
        clear e0
        gi_wp2_with fail
        refine ⟨trivial, ?_⟩
        refine (CallsIn.inRound l (callsIn_wide.2 H7.out.2.2.2.2.2.2)).mono ?_
        rintro e x7 ⟨rfl, v7, W7, N7, T7⟩
        obtain ⟨hW, hS, hK, hT, hN, hKp, -⟩ := H7.out
        have S7 := hS.turned hW T7 n1 n3 ng
        have K7 : ∀ k ∈ ks, Stay gw x7 k ∧ x7.heap[k]? = wr.heap[k]? := fun k hk => (hK k hk).keep hW T7
        have T07 := turned_more hN hT T7
        have N07 := hN.trans N7 hT.size
        have hbw := bwrite_any (m.get ((rf : Int) + j)) (hwf.get_len _) w1.heap.size gw v7 _ x7.drew (W7.stays (turned_below (Below.refl _ _).drew) (fun h => h) (fun _ _ h => h)) (by rw [List.length_append, List.length_append, hln, be_length _ _ (by omega)]; omega)
        have hlk := fun (W : World) (hW : SB g b m w.heap.size w2.heap.size gw W) => im_look hW.ok (i := (rf : Int) + j) (by unfold I64; omega)
        have hS0 : SB g b m w.heap.size w2.heap.size gw x7.drew := S7.drew
        have H8 : Hid _ := And.intro W7 (And.intro S7 (And.intro K7 (And.intro T07 (And.intro N07 (And.intro hKp (And.intro hbw hlk))))))
        clear hW hS hK hT hN hKp S7 K7 T07 N07 hbw W7 N7 T7 H7 c1 c3 hlk
        gi_wp2_with fail
        refine wpIn_region_held (S := fun W => SB g b m w.heap.size w2.heap.size gw W) (by kernel_rfl) (by kernel_rfl) (by rintro ⟨a, w, h⟩; exact h) hS0 (fun hS => ?_)
        refine any_take (i := 0) (v := .pointer (some ⟨g, 0, none⟩)) rfl (by kernel_rfl) (by kernel_rfl) (by kernel_rfl) (by exact fun _ _ _ h => h) (by rfl) ?_ hS ?_
        · intro W hSW; have c := hSW.cells.1; go_simp
        (try simp only [Act.put, List.setIfInBounds_toArray, List.set_cons_zero, List.set_cons_succ])
        refine any_take (i := 1) (v := ?_) rfl (by kernel_rfl) (by kernel_rfl) (by kernel_rfl) (by exact fun _ _ _ h => h) (by rfl) ?_ hS ?_
        rotate_left
        · ((intro w hSw; (try dsimp only at hSw); go_simp) <;> with_reducible rfl)
        (try simp only [Act.put, List.setIfInBounds_toArray, List.set_cons_zero, List.set_cons_succ])
        refine any_take (i := 2) (v := ?_) rfl (by kernel_rfl) (by kernel_rfl) (by kernel_rfl) (by exact fun _ _ _ h => h) (by rfl) ?_ hS ?_
        rotate_left
        · ((intro w hSw; (try dsimp only at hSw); go_simp) <;> with_reducible rfl)
        (try simp only [Act.put, List.setIfInBounds_toArray, List.set_cons_zero, List.set_cons_succ])
        refine any_take (i := 3) (v := .map (some b)) rfl (by kernel_rfl) (by kernel_rfl) (by kernel_rfl) (by exact fun _ _ _ h => h) (by rfl) ?_ hS ?_
        · intro W hSW; have c := (im_cells hSW.ok).2; go_simp
        (try simp only [Act.put, List.setIfInBounds_toArray, List.set_cons_zero, List.set_cons_succ])
        refine any_take (i := 4) (v := ?_) rfl (by kernel_rfl) (by kernel_rfl) (by kernel_rfl) (by exact fun _ _ _ h => h) (by rfl) ?_ hS ?_
        rotate_left
        · ((intro w hSw; (try dsimp only at hSw); go_simp) <;> with_reducible rfl)
        (try simp only [Act.put, List.setIfInBounds_toArray, List.set_cons_zero, List.set_cons_succ])
        refine any_take (i := 5) (v := arrV (m.get ((rf : Int) + j))) rfl (by kernel_rfl) (by kernel_rfl) (by kernel_rfl) (by exact fun _ _ _ h => h) (by rfl) ?_ hS ?_
        · intro W hSW; have c := H8.out.2.2.2.2.2.2.2 W hSW; go_simp
        (try simp only [Act.put, List.setIfInBounds_toArray, List.set_cons_zero, List.set_cons_succ])
        refine any_take (i := 6) (v := .pointer (some ⟨gw, 0, none⟩)) rfl (by kernel_rfl) (by kernel_rfl) (by kernel_rfl) (by exact fun _ _ _ h => h) (by rfl) ?_ hS ?_
        · intro W hSW; have c := hSW.cells.2; go_simp
        (try simp only [Act.put, List.setIfInBounds_toArray, List.set_cons_zero, List.set_cons_succ])
        refine any_one (i := 7) rfl (by kernel_rfl) (fun K hK => ?_)
        go_simp
        refine (Calls.mono H8.out.2.2.2.2.2.2.1) ?_
        rintro e x8 ⟨rfl, v8, W8, N8, T8⟩
        have W7d := H8.out.1.stays (turned_below (Below.refl x7.heap.size x7).drew) (fun h => h) (fun _ _ h => h)
        have S8 := hS0.turned W7d T8 n1 n3 ng
        go_wp2_with fail
        refine hK.out _ _ S8 ?_
        clear hK K hS
        refine wpAnyH_done (by kernel_rfl) ?_ _
        have K8 : ∀ k ∈ ks, Stay gw x8 k ∧ x8.heap[k]? = x7.heap[k]? := fun k hk => Stay.keep (W := x7.drew) (H8.out.2.2.1 k hk).1 W7d T8
        have T78 : Turned (Mine gw v7) x7 x8 := ((turned_below (Below.refl x7.heap.size x7).drew).mono (fun _ h => h.elim)).trans (T8.mono (fun k hk => .inl hk))
        have eE : encAll m (List.range' rf (j + 1)) = encAll m (List.range' rf j) ++ (be 2 (BitVec.ofInt 64 ((rf : Int) + j)) ++ m.get ((rf : Int) + j)) := by have e9 : ((rf + 1 * j : Nat) : Int) = (rf : Int) + j := by omega
                                                                                                                                                               rw [List.range'_concat, encAll_append]
                                                                                                                                                               simp only [encAll, List.flatMap_cons, List.flatMap_nil, List.append_nil, e9]
        have F : Hid _ := And.intro (show WrAt x8 w1.heap.size gw 104 v8 (L ++ encAll m (List.range' rf (j + 1))) 0 from (by rw [eE]; simpa [List.append_assoc] using W8)) (And.intro S8 (And.intro (fun k hk => (K8 k hk).1) (And.intro (turned_more H8.out.2.2.2.2.1 H8.out.2.2.2.1 T78) (And.intro (H8.out.2.2.2.2.1.trans N8 H8.out.2.2.2.1.size) (show KeepB ks W x8 from fun k hk => (K8 k hk).2.trans ((H8.out.2.2.1 k hk).2.trans (H8.out.2.2.2.2.2.1 k hk)))))))
        clear W8 N8 T8 W7d S8 K8 T78 eE H8 hS0
        gi_wp2
        exact ⟨⟨j + 1, v8, by omega, by go_num, F.out.1, F.out.2.1, F.out.2.2.1, F.out.2.2.2.1, F.out.2.2.2.2.1, F.out.2.2.2.2.2⟩, by simp [intOf]; omega⟩
      · obtain rfl : j = rc := by omega
        have q1 : ¬ ((rf + j : Nat) : Int) < (rf : Int) + (j : Int) := by omega
        have F : Hid _ := And.intro hW (And.intro hS (And.intro hK (And.intro hT hKp)))
        clear hW hS hK hT hN hKp
        gi_wp2
        exact ⟨⟨v', F.out.1⟩, F.out.2.1, F.out.2.2.1, F.out.2.2.2.1, F.out.2.2.2.2⟩
  case done =>
    rintro D ys W hD hys ⟨v, hW, hS, hK, hb⟩ hdf
    rw [hys] at hW
    obtain ⟨c1, c3⟩ := hS.cells
    have hel := encAll_len hwf (expand (rnN m m.n))
    have hex : (expand (rnN m m.n)).length ≤ 256 := by rw [expand_rn]; exact Nat.le_trans (List.length_filter_le _ _) (by simpa using hm)
    have hhl : (headE m).length = 4 := by unfold headE; rw [List.length_append, be_length _ _ (by omega), be_length _ _ (by omega)]
    have HE : Hid _ := wEnd_any w1.heap.size gw v _ 0 W hW (by rw [List.length_append, hhl, hel]; omega)
    have F0 : Hid _ := And.intro hb (And.intro hdf (And.intro hD hz6))
    clear hW hS hK hb hdf hel hex hhl hsq hys
    go_wp2_with fail
    refine (Calls.mono HE.out) ?_
    rintro e x9 ⟨cv, rfl, ho9, b9⟩
    have hw9 : wrEnd (headE m ++ encAll m (expand (rnN m m.n))) 0 = bytesM m := by unfold wrEnd bytesM; rw [if_pos rfl]
    rw [hw9] at ho9
    obtain ⟨hb, hdf, hD, hz6⟩ := F0.out
    have hlD : D < W.heap.size := (Array.getElem?_eq_some_iff.1 hdf).1
    have hd9 : x9.heap[D]? = some (.deferred (some [])) := (b9.block D hlD).trans hdf
    have F : Hid _ := And.intro ho9 (And.intro (below_then hb b9) (And.intro hd9 (And.intro hb.size (And.intro hD hlD))))
    clear ho9 b9 hb hdf hd9 hw9 HE F0 c1 c3 hD hlD
    go_wp2_with fail
    refine ⟨by simp, .inl ⟨_, _, rfl, run_takeDeferred F.out.2.2.1, ?_⟩⟩
    refine ⟨_, results_tmp rfl _ _ _, cv, rfl, ?_, ?_⟩
    · have := (F.out.1.low F.out.2.2.2.1)
      exact own_put this (fun k hk => by have := (World.ownsRow.lt F.out.1 k hk).1; have := F.out.2.2.2.2.2; omega)
    · exact F.out.2.1.trans (belowK_b (w := w) (Nat.le_refl _) x9 D _ _ (Nat.le_trans hz6 F.out.2.2.2.2.1) F.out.2.2.1 rfl rfl)
  case stop =>
    rintro D c pre W _ _ h _
    exact h.elim
end Go.Proofs.Ytmkacgdbmojomaa

/- Images that are not there; ones. -/
namespace Go.Proofs.Ytmkacgdbmojomaa
open Go.RowKit Go.MapKept Go.ChangeMaps Go.Shelf
set_option linter.unusedVariables false
set_option maxRecDepth 4000
attribute [local go_sem] Oper.semAt_some

theorem imRead_nil (a k : Int) (w : World) : Calls Try.prog 30 #[.pointer none, .int .i64 a, .int .i64 k] w fun e w' => e = .returned (.tuple #[.slice none 0 0, .int .i64 2]) ∧ w = w' := by
  go_enter Try.func30, Try.ntmps30
  go_wp2
  go_ret2
  exact ⟨rfl, rfl⟩
theorem imDiff_nil (w : World) : Calls Try.prog 23 #[.pointer none, .pointer none] w fun e w' => e = .returned (.tuple #[.slice none 0 0, .int .i64 2]) ∧ w = w' := by
  go_enter Try.func23, Try.ntmps23
  go_wp2
  go_ret2
  exact ⟨rfl, rfl⟩
theorem imWrite_nil (a : Int) (v : Value) (w : World) : Calls Try.prog 27 #[.pointer none, .int .i64 a, v] w fun e w' => e = .returned (.int .i64 2) ∧ w = w' := by
  go_enter Try.func27, Try.ntmps27
  go_wp2
  go_ret
  exact ⟨rfl, rfl⟩
theorem imUnmap_nil (a k : Int) (w : World) : Calls Try.prog 18 #[.pointer none, .int .i64 a, .int .i64 k] w fun e w' => e = .returned (.int .i64 2) ∧ w = w' := by
  go_enter Try.func18, Try.ntmps18
  go_wp2
  go_ret
  exact ⟨rfl, rfl⟩
theorem imChange_nil (v : Value) (w : World) : Calls Try.prog 26 #[.pointer none, v] w fun e w' => e = .returned (.int .i64 2) ∧ w = w' := by
  go_enter Try.func26, Try.ntmps26
  go_wp2
  go_ret
  exact ⟨rfl, rfl⟩
theorem imSize_nil (w : World) : Calls Try.prog 46 #[.pointer none] w fun e w' => e = .returned (.int .i64 0) ∧ w = w' := by
  go_enter Try.func46, Try.ntmps46
  go_wp2
  go_ret
  exact ⟨rfl, rfl⟩
theorem imUsed_nil (w : World) : Calls Try.prog 29 #[.pointer none] w fun e w' => e = .returned (.int .i64 0) ∧ w = w' := by
  go_enter Try.func29, Try.ntmps29
  go_wp2
  go_ret
  exact ⟨rfl, rfl⟩
theorem imHas_nil (a : Int) (w : World) : Calls Try.prog 17 #[.pointer none, .int .i64 a] w fun e w' => e = .returned (.bool false) ∧ w = w' := by
  go_enter Try.func17, Try.ntmps17
  go_wp2
  go_ret
  exact ⟨rfl, rfl⟩
theorem imCopy_nil (w : World) : Calls Try.prog 16 #[.pointer none] w fun e w' => e = .returned (.pointer none) ∧ w = w' := by
  go_enter Try.func16, Try.ntmps16
  go_wp2
  go_ret
  exact ⟨rfl, rfl⟩
theorem imSame_nil (w : World) : Calls Try.prog 12 #[.pointer none, .pointer none] w fun e w' => e = .returned (.bool true) ∧ w = w' := by
  go_enter Try.func12, Try.ntmps12
  go_wp2
  go_ret
  exact ⟨rfl, rfl⟩
theorem imBytes_nil (w : World) : Calls Try.prog 10 #[.pointer none] w fun e w' => e = .returned (.slice none 0 0) ∧ Below w.heap.size w w' := by
  have B1 : Blk (w.alloc (.cells #[.pointer none] 23)) w.heap.size 23 [.pointer none] := Blk.new' w _ _
  have c1 := B1.cell (by simp [maxLen]) 0 (by simp)
  simp only [List.getElem?_cons_zero] at c1
  clear B1
  go_enter Try.func10, Try.ntmps10
  go_wp2
  go_ret
  exact ⟨rfl, (Below.refl _ _).alloc (Nat.le_refl _) _⟩
theorem imruns_nil (w : World) : Calls Try.prog 65 #[.pointer none] w fun e w' => e = .returned (.slice none 0 0) ∧ w = w' := by
  go_enter Try.func65, Try.ntmps65
  go_wp2_with (go_at_call 46; refine (imSize_nil _).mono ?_; rintro e w' ⟨rfl, rfl⟩)
  go_loopw [3, 7] (fun v i wr => v = .slice none 0 0 ∧ i = .int .i64 0 ∧ w = wr) (fun _ _ _ => 0)
  case atStart => exact ⟨rfl, rfl, rfl⟩
  case round =>
    obtain ⟨rfl, rfl, rfl⟩ := hrel
    go_wp2
    go_ret
    exact ⟨rfl, rfl⟩
theorem imRuns_nil (w : World) : Calls Try.prog 33 #[.pointer none] w fun e w' => ∃ c, e = .returned (.func (.func 66) #[] #[.pointer (some ⟨c, 0, none⟩)]) ∧ Blk w' c 109 [.slice none 0 0] ∧ Below w.heap.size w w' := by
  have B2 : Blk (w.alloc (.cells #[.slice none 0 0] 109)) w.heap.size 109 [.slice none 0 0] := Blk.new' w _ _
  have b2 : Below w.heap.size w (w.alloc (.cells #[.slice none 0 0] 109)) := (Below.refl _ _).alloc (Nat.le_refl _) _
  have F : Hid _ := And.intro B2 b2
  clear B2 b2
  go_enter Try.func33, Try.ntmps33
  go_wp2_with (go_at_call 65; refine (imruns_nil _).mono ?_; rintro e w' ⟨rfl, rfl⟩)
  go_ret
  exact ⟨_, rfl, F.out.1, F.out.2⟩

theorem seq_not_nil (w : World) (f : Fn) (x y : Array Value) : (binOp .eql 74 (.func f x y) .nilFunc).run Try.prog w = .ok (.bool false) w := by kernel_rfl
set_option maxHeartbeats 1000000 in
theorem lawruns_nil (w : World) : Calls Try.prog 51 #[.pointer none] w fun e w' => e = .returned (.slice none 0 0) ∧ Below w.heap.size w w' := by
  have B1 : Blk (w.alloc (.cells #[.slice none 0 0] 88)) w.heap.size 88 [.slice none 0 0] := Blk.new' w _ _
  have b1 : Below w.heap.size w (w.alloc (.cells #[.slice none 0 0] 88)) := (Below.refl _ _).alloc (Nat.le_refl _) _
  have F0 : Hid _ := And.intro B1 b1
  clear B1 b1
  refine (callsIn_wide (n := 9)).1 ?_
  refine callsIn_of_wp_marks Try.func51 rfl trivial ?_ rfl
  simp only [Try.ntmps51, List.size_toArray, List.length_cons, List.length_nil, Nat.reduceAdd, Nat.reduceSub, Array.replicate_succ, Array.replicate_zero, List.push_toArray, List.append_toArray, List.nil_append, List.cons_append]
  refine wpIn_wide.2 (wp_mono (Q := calmQ (bodyPostM Fence.wide 9 Try.prog Try.f51 fun e w' => e = .returned (.slice none 0 0) ∧ Below w.heap.size w w')) ?_ (fun e a w h => calmQ_out h))
  go_wp2_with fail
  generalize w.alloc (.cells #[.slice none 0 0] 88) = w1 at *
  refine (imRuns_nil w1).mono ?_
  rintro e x6 ⟨cb, rfl, Bc, b6⟩
  have hsn := seq_not_nil x6
  go_wp2_with fail
  have hsq := seq_stops 8 (by omega) cb none 0 [] x6 (fun r hr => by cases hr) (by simp) Bc (RsOwn.nil _ _)
  have B6 := F0.out.1.laterB b6
  have bb6 := below_then F0.out.2 b6
  have hz6 := bb6.size
  have hk7 : ∀ k ∈ cb :: (Value.slice none ([] : List (Nat × Nat)).length 0).ownBlock.toList, k < x6.heap.size := fun k hk => by
    have : k = cb := by simpa [Value.ownBlock] using hk
    subst this; exact Bc.lt
  refine (wpIn_wide (n := 9)).1 ?_
  refine wpIn_rangeFunc_ownG rfl (by omega) (gf := 66) (lb := #[.pointer (some ⟨cb, 0, none⟩)]) rfl trivial (enters_of Try.func66 (by kernel_rfl) rfl) hsq (fun h k => h.t k) (fun W l o o' hl h _ _ k hk => World.putObj_heap_other (by have := hk7 k hk; omega)) (Below.refl _ _) (fun _ => rfl) (fun pre W => Blk W w.heap.size 88 [.slice none 0 0] ∧ Below w.heap.size w W) (fun _ _ _ => False)
    (fun s A B row hs hg hr => ⟨hs.1.turned (turned_grown (R := fun k => row = some k) hg (fun k e => e)) (fun e => by obtain ⟨_, o, ho, hc⟩ := hr _ e; exact blk_not hs.1 ho hc), hs.2.grown hg hs.2.size (fun k e => Nat.le_trans hz6 (hr k e).1)⟩)
    (fun _ _ _ _ _ hs _ _ => hs) ⟨B6, bb6⟩ (fun x => { tmps := #[.pointer none, undef, .slice none 0 0, .pointer (some ⟨w.heap.size, 0, none⟩), .func (.func 66) #[] #[.pointer (some ⟨cb, 0, none⟩)], .int .i64 (x.1.1 : Int), .int .i64 (x.1.2 : Int), .pointer none, .func (.func 66) #[] #[.pointer (some ⟨cb, 0, none⟩)], .func (.func 66) #[] #[.pointer (some ⟨cb, 0, none⟩)], .bool false, .func (.func 66) #[] #[.pointer (some ⟨cb, 0, none⟩)], .int .i64 (x.1.1 : Int), .int .i64 (x.1.2 : Int), undef, undef, undef, undef, undef, undef, undef], defers := [] }) ?assign ?body ?done ?stop
  case assign =>
    intro l x W K hK
    simp only [encR]
    gi_wp2
    exact hK
  case body =>
    rintro l pre x W hI hlt
    exact absurd hlt (by simp)
  case done =>
    rintro D ys W hD hys ⟨hB, hb⟩ hdf
    have c1 := hB.cell (by simp [maxLen]) 0 (by simp)
    simp only [List.getElem?_cons_zero] at c1
    have F : Hid _ := And.intro hb (And.intro hdf (And.intro hD hz6))
    clear hb hdf hsq hys hB hD
    go_wp2_with fail
    refine ⟨by simp, .inl ⟨_, _, rfl, run_takeDeferred F.out.2.1, ?_⟩⟩
    exact ⟨_, results_tmp rfl _ _ _, rfl, F.out.1.trans (belowK_b (w := w) (Nat.le_refl _) W D _ _ (Nat.le_trans hz6 F.out.2.2.1) F.out.2.1 rfl rfl)⟩
  case stop =>
    rintro D c pre W _ _ h _
    exact h.elim

/-- the first k cells are 1 -/
def onesTo (n k : Nat) : List (BitVec 8) := List.replicate k 1#8 ++ List.replicate (n - k) 0#8
theorem onesTo_length (n k : Nat) (h : k ≤ n) : (onesTo n k).length = n := by unfold onesTo; rw [List.length_append, List.length_replicate, List.length_replicate]; omega
theorem onesTo_step (n k : Nat) (h : k < n) : (vals (onesTo n k)).set k (.int .u8 1) = vals (onesTo n (k + 1)) := by
  unfold onesTo
  rw [vals_append, vals_append, show n - k = (n - (k + 1)) + 1 by omega, List.replicate_succ, List.replicate_succ']
  generalize n - (k + 1) = m
  have e : (vals (List.replicate k 1#8)).length = k := by rw [vals_length, List.length_replicate]
  rw [List.set_append_right _ _ (by omega), e, Nat.sub_self, vals_append]
  simp [vals]
set_option maxHeartbeats 1000000 in
theorem ones5_any (n : Nat) (hn : n ≤ 1000000) (w : World) : Calls Try.prog 28 #[.int .i64 n] w fun e w' => ∃ v, e = .returned v ∧ Own w' w.heap.size v (List.replicate n 1#8) ∧ Below w.heap.size w w' := by
  have hmk := make_bytes n n rfl (by omega)
  have mb : Below w.heap.size w (w.alloc (.cells (madeCells #[.int .u8 0] n) 5)) := (Below.refl _ _).alloc (Nat.le_refl _) _
  have mB : Blk (w.alloc (.cells (madeCells #[.int .u8 0] n) 5)) w.heap.size 5 (vals (onesTo n 0)) := by unfold onesTo; simpa using blk_made w n
  have K1 : Hid _ := And.intro mB mb
  have hn' : (n : Int) ≤ 1000000 := by omega
  clear mB mb
  go_enter Try.func28, Try.ntmps28
  go_wp2_with fail
  generalize w.alloc (.cells (madeCells #[.int .u8 0] n) 5) = w2 at *
  go_loopw [4] (fun i wr => ∃ k : Nat, k ≤ n ∧ i = .int .i64 k ∧ Blk wr w.heap.size 5 (vals (onesTo n k)) ∧ w2.grownBy wr (some w.heap.size)) (fun i _ => n - (intOf i).toNat)
  case atStart => exact ⟨0, by omega, rfl, K1.out.1, ⟨rfl, rfl, rfl, Nat.le_refl _, fun _ _ _ => rfl⟩⟩
  case round =>
    obtain ⟨k, hk, rfl, hB, hG⟩ := hrel
    have hl : (vals (onesTo n k)).length = n := by rw [vals_length]; exact onesTo_length n k hk
    by_cases hlt : k < n
    · have q1 : (k : Int) < n := by omega
      obtain ⟨old, hc⟩ : ∃ old, wr.cell? ⟨w.heap.size, k, none⟩ = some old := ⟨_, (hB.cell (by rw [hl]; unfold maxLen; omega) k (by omega)).trans (List.getElem?_eq_getElem (by omega))⟩
      have hf := hB.frozen (by rw [hl]; unfold maxLen; omega) k
      have B' := hB.set k (.int .u8 1)
      rw [onesTo_step n k hlt] at B'
      have F : Hid _ := And.intro B' (grown_trans hG (grown_set wr w.heap.size k (.int .u8 1)))
      clear hB hG B' hl K1 hmk
      go_wp2
      exact ⟨⟨k + 1, by omega, by go_num, F.out.1, F.out.2⟩, by simp [intOf]; omega⟩
    · obtain rfl : k = n := by omega
      have hO : Own wr w.heap.size (.slice (some ⟨w.heap.size, 0, none⟩) k k) (List.replicate k 1#8) := by
        have e : onesTo k k = List.replicate k 1#8 := by unfold onesTo; rw [Nat.sub_self]; simp
        rw [e] at hB
        have := blk_own (base := w.heap.size) (cap := k) (l := List.replicate k 1#8) hB (by rw [vals_length, List.length_replicate]) (by rw [List.take_of_length_le (by rw [vals_length]; exact Nat.le_refl _)]) (by rw [List.length_replicate]; exact Nat.le_refl _) (by unfold maxLen; omega) (Nat.le_refl _)
        rwa [List.length_replicate] at this
      have F : Hid _ := And.intro hO (K1.out.2.trans (grown_below hG _ (Nat.le_refl _) K1.out.2.size))
      clear hO hB hG K1 hmk hl
      go_wp2
      go_ret
      exact ⟨_, rfl, F.out.1, F.out.2⟩
end Go.Proofs.Ytmkacgdbmojomaa

/- What must come of fixed calls of an image. -/
namespace Go.Proofs.Ytmkacgdbmojomaa
open Go.RowKit Go.MapKept Go.ChangeMaps Go.Shelf
set_option linter.unusedVariables false
set_option maxRecDepth 8000

/-- the images of the document's example -/
def km0 : Im := ⟨4, fun _ => none⟩
def km1 : Im := wrN km0 1 (List.replicate 128 1#8) 2
def km2 : Im := unN km1 2 1
theorem km0_wf : km0.Wf := ⟨by decide, by decide, fun k l h => by cases h⟩
theorem km1_wf : km1.Wf := wrN_wf km0_wf 1 _ 2 (by decide) (by rw [List.length_replicate]; decide)
theorem km2_wf : km2.Wf := unN_wf km1_wf 2 1 (by decide)
theorem km1_used : km1.used = 2 := by decide
theorem km2_read : rdN km2 2 1 = List.replicate 64 0#8 := by decide
def six : List (BitVec 8) := [0#8, 4#8, 0#8, 1#8, 0#8, 1#8]
def on64 : List (BitVec 8) := List.replicate 64 1#8
theorem km2_bytes : bytesM km2 = six ++ on64 := by decide
theorem str_size (l : List (BitVec 8)) : (str l).size = l.length := by unfold str; rw [strOfNums_size, List.length_map]
theorem six_str : (Value.string { data := #[0, 4, 0, 1, 0, 1] }) = .string (str six) := by kernel_rfl
theorem str_app (a b : List (BitVec 8)) : str a ++ str b = str (a ++ b) := by
  unfold str strOfNums
  apply ByteArray.ext
  simp
theorem im_W {g b B : Nat} {m : Im} (h : B ≤ b) : ∀ k ∈ (im g b m).W, B ≤ k := fun k hk => by
  have : k = b := by simpa [im] using hk
  omega
theorem imBytes_str (g b : Nat) (m : Im) (w : World) (h : (im g b m).Ok w) (hw : m.Wf) (L : List (BitVec 8)) (hL : bytesM m = L) :
    Calls Try.prog 10 #[.pointer (some ⟨g, 0, none⟩)] w fun e w' => ∃ a len cap, e = .returned (.slice a len cap) ∧ (∀ X, Below w'.heap.size w' X → (convert 31 9 (.slice a len cap)).run Try.prog X = .ok (.string (str L)) X) ∧ Below w'.heap.size w' w' ∧ Below w.heap.size w w' := by
  refine (imBytes_any g b m w h hw).mono ?_
  rintro e w' ⟨v, rfl, ho, hb⟩
  obtain ⟨a, cap, rfl, _, _, hr, _, _⟩ := ho.open
  rw [hL] at hr
  exact ⟨a, _, cap, rfl, fun X hX => (hr.later hX).str _ _ (by rw [hL]), Below.refl _ _, hb⟩
theorem ones_str64 (w : World) :
    Calls Try.prog 28 #[.int .i64 64] w fun e w' => ∃ a len cap, e = .returned (.slice a len cap) ∧ (∀ X, Below w'.heap.size w' X → (convert 31 9 (.slice a len cap)).run Try.prog X = .ok (.string (str on64)) X) ∧ Below w'.heap.size w' w' ∧ Below w.heap.size w w' := by
  refine (ones5_any 64 (by omega) w).mono ?_
  rintro e w' ⟨v, rfl, ho, hb⟩
  obtain ⟨a, cap, rfl, _, _, hr, _, _⟩ := ho.open
  exact ⟨a, _, cap, rfl, fun X hX => (hr.later hX).str _ _ rfl, Below.refl _ _, hb⟩
theorem ones_str (n : Nat) (hn : n ≤ 1000000) (w : World) :
    Calls Try.prog 28 #[.int .i64 n] w fun e w' => ∃ a len cap, e = .returned (.slice a len cap) ∧ (∀ X, Below w'.heap.size w' X → (convert 31 9 (.slice a len cap)).run Try.prog X = .ok (.string (str (List.replicate n 1#8))) X) ∧ Below w'.heap.size w' w' ∧ Below w.heap.size w w' := by
  refine (ones5_any n hn w).mono ?_
  rintro e w' ⟨v, rfl, ho, hb⟩
  obtain ⟨a, cap, rfl, _, _, hr, _, _⟩ := ho.open
  exact ⟨a, _, cap, rfl, fun X hX => (hr.later hX).str _ _ rfl, Below.refl _ _, hb⟩

set_option maxHeartbeats 4000000 in
theorem known5_any (w : World) :
    Calls Try.prog 8 #[] w fun e w' => e = .returned (.bool true) ∧ Below w.heap.size w w' := by
  go_enter Try.func8, Try.ntmps8
  go_wp2_with fail
  refine (imNew_yes 4 w (by omega)).mono ?_
  rintro e w1 ⟨g, b, rfl, hg, hb, ok1, b1⟩
  go_wp2_with fail
  refine (ones5_any 128 (by omega) w1).mono ?_
  rintro e w2 ⟨v2, rfl, o2, b2⟩
  have ok2 := ok1.later b2
  obtain ⟨m2, c2, rfl, hm2, hm2'⟩ := o2.some (by rw [List.length_replicate]; omega)
  obtain ⟨a2, cap2, hv2, hle2, _, r2, -, -⟩ := o2.open
  simp only [Value.slice.injEq] at hv2
  obtain ⟨rfl, -, rfl⟩ := hv2
  rw [List.length_replicate] at hle2
  have hbl : b < w1.heap.size := ok1.lt b (.inl (by simp [im]))
  have HW : Hid _ := imWrite_yes g b km0 1 2 (some ⟨m2, 0, none⟩) 128 c2 (List.replicate 128 1#8) w2 ok2 km0_wf (by decide) rfl (by rw [List.length_replicate]) hle2 r2 (fun y hy => by cases hy; show m2 ≠ b; omega)
  have bb2 := below_then b1 b2
  have H2 : Hid _ := And.intro bb2 (And.intro hg hb)
  rw [List.length_replicate]
  clear ok1 ok2 o2 r2 b1 b2 hm2' hbl bb2 hg hb
  go_wp2_with fail
  refine (Calls.mono HW.out) ?_
  rintro e w3 ⟨rfl, st3⟩
  have e1 : wrN km0 1 (List.replicate 128 1#8) 2 = km1 := rfl
  rw [e1] at st3
  have b3 : Below w.heap.size w w3 := H2.out.1.trans (st3.below w.heap.size H2.out.1.size (im_W H2.out.2.2))
  have HU : Hid _ := imUsed_any g b km1 w3 st3.ok km1_wf
  rw [km1_used] at HU
  have HM : Hid _ := imUnmap_yes g b km1 2 1 w3 st3.ok km1_wf (by decide)
  have H3 : Hid _ := And.intro b3 (And.intro H2.out.2.1 H2.out.2.2)
  clear st3 b3 e1 HW H2
  go_wp2_with fail
  refine (Calls.mono HU.out) ?_
  rintro e w3' ⟨rfl, rfl⟩
  go_wp2_with fail
  refine (Calls.mono HM.out) ?_
  rintro e w4 ⟨rfl, st4⟩
  have e2 : unN km1 2 1 = km2 := rfl
  rw [e2] at st4
  have b4 : Below w.heap.size w w4 := H3.out.1.trans (st4.below w.heap.size H3.out.1.size (im_W H3.out.2.2))
  have HR : Hid _ := imRead_yes g b km2 2 1 w4 st4.ok km2_wf (by decide)
  rw [km2_read] at HR
  have H4 : Hid _ := And.intro b4 st4.ok
  clear st4 b4 e2 HU HM H3
  go_wp2_with fail
  refine (Calls.mono HR.out) ?_
  rintro e w5 ⟨v5, rfl, o5, b5⟩
  have hc5 : ∀ X, Below w5.heap.size w5 X → (convert 31 9 v5).run Try.prog X = .ok (.string (str (List.replicate 64 0#8))) X := by
    obtain ⟨a, cap, rfl, _, _, hr, _, _⟩ := o5.open
    exact fun X hX => (hr.later hX).str _ _ rfl
  have ok5 := H4.out.2.later b5
  have bb5 := below_then H4.out.1 b5
  obtain ⟨a5, c5, rfl, -, -, -⟩ := o5.open
  rw [List.length_replicate] at hc5 ⊢
  have H5 : Hid _ := And.intro ok5 bb5
  clear ok5 bb5 b5 o5 HR H4
  go_wp2_with fail
  have Sd : Below w5.heap.size w5 w5.drew := (Below.refl _ _).drew
  have hmk := make_bytes 64 64 rfl (by omega)
  refine wp_region_held_drew (S := fun W => Below w5.heap.size w5 W) (by kernel_rfl) Sd (fun hS => ?_)
  have B0 : Below w5.heap.size w5 w5.drew := Sd
  refine any_take (i := 0) (v := ?_) rfl (by kernel_rfl) (by kernel_rfl) (by kernel_rfl) (by exact fun _ _ _ h => h) (by rfl) ?_ hS ?_
  rotate_left
  · ((intro w hSw; (try dsimp only at hSw); go_simp) <;> with_reducible rfl)
  (try simp only [Act.put, List.setIfInBounds_toArray, List.set_cons_zero, List.set_cons_succ])
  refine any_take (i := 1) (v := ?_) rfl (by kernel_rfl) (by kernel_rfl) (by kernel_rfl) (by exact fun _ _ _ h => h) (by rfl) ?_ hS ?_
  rotate_left
  · ((intro w hSw; (try dsimp only at hSw); go_simp) <;> with_reducible rfl)
  (try simp only [Act.put, List.setIfInBounds_toArray, List.set_cons_zero, List.set_cons_succ])
  refine any_take (i := 2) (v := ?_) rfl (by kernel_rfl) (by kernel_rfl) (by kernel_rfl) (by exact fun _ _ _ h => h) (by rfl) ?_ hS ?_
  rotate_left
  · ((intro w hSw; (try dsimp only at hSw); go_simp) <;> with_reducible rfl)
  (try simp only [Act.put, List.setIfInBounds_toArray, List.set_cons_zero, List.set_cons_succ])
  refine any_take (i := 3) (v := ?_) rfl (by kernel_rfl) (by kernel_rfl) (by kernel_rfl) (by exact fun _ _ _ h => h) (by rfl) ?_ hS ?_
  rotate_left
  · ((intro w hSw; (try dsimp only at hSw); go_simp) <;> with_reducible rfl)
  (try simp only [Act.put, List.setIfInBounds_toArray, List.set_cons_zero, List.set_cons_succ])
  refine any_take (i := 4) (v := ?_) rfl (by kernel_rfl) (by kernel_rfl) (by kernel_rfl) (by exact fun _ _ _ h => h) (by rfl) ?_ hS ?_
  rotate_left
  · ((intro w hSw; (try dsimp only at hSw); go_simp) <;> with_reducible rfl)
  (try simp only [Act.put, List.setIfInBounds_toArray, List.set_cons_zero, List.set_cons_succ])
  refine any_take (i := 5) (v := ?_) rfl (by kernel_rfl) (by kernel_rfl) (by kernel_rfl) (by exact fun _ _ _ h => h) (by rfl) ?_ hS ?_
  rotate_left
  · ((intro w hSw; (try dsimp only at hSw); go_simp) <;> with_reducible rfl)
  (try simp only [Act.put, List.setIfInBounds_toArray, List.set_cons_zero, List.set_cons_succ])
  refine any_take (i := 6) (v := ?_) rfl (by kernel_rfl) (by kernel_rfl) (by kernel_rfl) (by exact fun _ _ _ h => h) (by rfl) ?_ hS ?_
  rotate_left
  · ((intro w hSw; (try dsimp only at hSw); go_simp) <;> with_reducible rfl)
  (try simp only [Act.put, List.setIfInBounds_toArray, List.set_cons_zero, List.set_cons_succ])
  refine any_take (i := 7) (v := ?_) rfl (by kernel_rfl) (by kernel_rfl) (by kernel_rfl) (by exact fun _ _ _ h => h) (by rfl) ?_ hS ?_
  rotate_left
  · ((intro w hSw; (try dsimp only at hSw); go_simp) <;> with_reducible rfl)
  (try simp only [Act.put, List.setIfInBounds_toArray, List.set_cons_zero, List.set_cons_succ])
  refine any_take (i := 8) (v := ?_) rfl (by kernel_rfl) (by kernel_rfl) (by kernel_rfl) (by exact fun _ _ _ h => h) (by rfl) ?_ hS ?_
  rotate_left
  · ((intro w hSw; (try dsimp only at hSw); go_simp) <;> with_reducible rfl)
  (try simp only [Act.put, List.setIfInBounds_toArray, List.set_cons_zero, List.set_cons_succ])
  refine any_take (i := 9) (v := ?_) rfl (by kernel_rfl) (by kernel_rfl) (by kernel_rfl) (by exact fun _ _ _ h => h) (by rfl) ?_ hS ?_
  rotate_left
  · ((intro w hSw; (try dsimp only at hSw); go_simp) <;> with_reducible rfl)
  (try simp only [Act.put, List.setIfInBounds_toArray, List.set_cons_zero, List.set_cons_succ])
  refine any_take (i := 10) (v := ?_) rfl (by kernel_rfl) (by kernel_rfl) (by kernel_rfl) (by exact fun _ _ _ h => h) (by rfl) ?_ hS ?_
  rotate_left
  · ((intro w hSw; (try dsimp only at hSw); go_simp) <;> with_reducible rfl)
  (try simp only [Act.put, List.setIfInBounds_toArray, List.set_cons_zero, List.set_cons_succ])
  refine any_take (i := 11) (v := ?_) rfl (by kernel_rfl) (by kernel_rfl) (by kernel_rfl) (by exact fun _ _ _ h => h) (by rfl) ?_ hS ?_
  rotate_left
  · ((intro w hSw; (try dsimp only at hSw); go_simp) <;> with_reducible rfl)
  (try simp only [Act.put, List.setIfInBounds_toArray, List.set_cons_zero, List.set_cons_succ])
  refine any_take (i := 12) (v := ?_) rfl (by kernel_rfl) (by kernel_rfl) (by kernel_rfl) (by exact fun _ _ _ h => h) (by rfl) ?_ hS ?_
  rotate_left
  · ((intro w hSw; (try dsimp only at hSw); go_simp) <;> with_reducible rfl)
  (try simp only [Act.put, List.setIfInBounds_toArray, List.set_cons_zero, List.set_cons_succ])
  refine any_one (i := 13) rfl (by kernel_rfl) (fun K hK => ?_)
  go_simp
  have b6 : Below w5.heap.size w5 ((w5.alloc (.cells (madeCells #[.int .u8 0] 64) 5)).drew) := ((Below.refl w5.heap.size w5).alloc (Nat.le_refl _) _).drew
  have r6 : Row (w5.alloc (.cells (madeCells #[.int .u8 0] 64) 5)).drew (some ⟨w5.heap.size, 0, none⟩) (List.replicate 64 0#8) := blk_row (w := (w5.alloc (.cells (madeCells #[.int .u8 0] 64) 5)).drew) (blk_made w5 64)
  refine hK.out _ _ b6 (any_weaken (S' := fun W => Below ((w5.alloc (.cells (madeCells #[.int .u8 0] 64) 5)).drew).heap.size ((w5.alloc (.cells (madeCells #[.int .u8 0] 64) 5)).drew) W) (fun W hW => below_then b6 hW) _ _ _ _ ?_)
  clear hK K hS
  generalize hx6 : (w5.alloc (.cells (madeCells #[.int .u8 0] 64) 5)).drew = x6 at *
  have hS : Below x6.heap.size x6 x6 := Below.refl _ _
  have hc6 : ∀ X, Below x6.heap.size x6 X → (convert 31 9 (.slice (some ⟨w5.heap.size, 0, none⟩) 64 64)).run Try.prog X = .ok (.string (str (List.replicate 64 0#8))) X := fun X hX => (r6.later hX).str _ _ (by rw [List.length_replicate])
  have ok6 := H5.out.1.later b6
  have B0 : Below x6.heap.size x6 x6 := Below.refl _ _
  (try simp only [Act.put, List.setIfInBounds_toArray, List.set_cons_zero, List.set_cons_succ])
  clear r6 hx6
  refine any_take (i := 14) (v := ?_) rfl (by kernel_rfl) (by kernel_rfl) (by kernel_rfl) (by exact fun _ _ _ h => h) (by rfl) ?_ hS ?_
  rotate_left
  · ((intro w hSw; (try dsimp only at hSw); go_simp) <;> with_reducible rfl)
  (try simp only [Act.put, List.setIfInBounds_toArray, List.set_cons_zero, List.set_cons_succ])
  refine any_take (i := 15) (v := ?_) rfl (by kernel_rfl) (by kernel_rfl) (by kernel_rfl) (by exact fun _ _ _ h => h) (by rfl) ?_ hS ?_
  rotate_left
  · ((intro w hSw; (try dsimp only at hSw); go_simp) <;> with_reducible rfl)
  (try simp only [Act.put, List.setIfInBounds_toArray, List.set_cons_zero, List.set_cons_succ])
  refine any_take (i := 16) (v := ?_) rfl (by kernel_rfl) (by kernel_rfl) (by kernel_rfl) (by exact fun _ _ _ h => h) (by rfl) ?_ hS ?_
  rotate_left
  · ((intro w hSw; (try dsimp only at hSw); go_simp) <;> with_reducible rfl)
  (try simp only [Act.put, List.setIfInBounds_toArray, List.set_cons_zero, List.set_cons_succ])
  refine any_take (i := 17) (v := ?_) rfl (by kernel_rfl) (by kernel_rfl) (by kernel_rfl) (by exact fun _ _ _ h => h) (by rfl) ?_ hS ?_
  rotate_left
  · ((intro w hSw; (try dsimp only at hSw); go_simp) <;> with_reducible rfl)
  (try simp only [Act.put, List.setIfInBounds_toArray, List.set_cons_zero, List.set_cons_succ])
  refine any_take (i := 18) (v := ?_) rfl (by kernel_rfl) (by kernel_rfl) (by kernel_rfl) (by exact fun _ _ _ h => h) (by rfl) ?_ hS ?_
  rotate_left
  · ((intro w hSw; (try dsimp only at hSw); go_simp) <;> with_reducible rfl)
  (try simp only [Act.put, List.setIfInBounds_toArray, List.set_cons_zero, List.set_cons_succ])
  refine any_one (i := 19) rfl (by kernel_rfl) (fun K hK => ?_)
  go_simp
  refine (Calls.mono (imBytes_str g b km2 x6 ok6 km2_wf _ km2_bytes)) ?_
  rintro e x1 ⟨a1, l1, c1, rfl, hc1, -, hbR⟩
  have B1 : Below x6.heap.size x6 x1 := below_then B0 hbR
  go_wp2_with fail
  refine hK.out _ _ (by first | exact B1 | exact hbR | exact below_then hS hbR) (any_weaken (S' := fun W => Below x1.heap.size x1 W) (fun W hW => by first | exact below_then B1 hW | exact below_then hbR hW | exact below_then (below_then hS hbR) hW) _ _ _ _ ?_)
  clear hK K hS hbR
  have hS : Below x1.heap.size x1 x1 := Below.refl _ _
  refine any_take (i := 20) (v := ?_) rfl (by kernel_rfl) (by kernel_rfl) (by kernel_rfl) (by exact fun _ _ _ h => h) (by rfl) ?_ hS ?_
  rotate_left
  · ((intro w hSw; (try dsimp only at hSw); go_simp) <;> with_reducible rfl)
  (try simp only [Act.put, List.setIfInBounds_toArray, List.set_cons_zero, List.set_cons_succ])
  refine any_one (i := 21) rfl (by kernel_rfl) (fun K hK => ?_)
  go_simp
  refine (Calls.mono (ones_str64 x1)) ?_
  rintro e x2 ⟨a2, l2, c2, rfl, hc2, -, hbR⟩
  have B2 : Below x6.heap.size x6 x2 := below_then B1 hbR
  go_wp2_with fail
  refine hK.out _ _ (by first | exact B2 | exact hbR | exact below_then hS hbR) (any_weaken (S' := fun W => Below x2.heap.size x2 W) (fun W hW => by first | exact below_then B2 hW | exact below_then hbR hW | exact below_then (below_then hS hbR) hW) _ _ _ _ ?_)
  clear hK K hS hbR
  have hS : Below x2.heap.size x2 x2 := Below.refl _ _
  refine any_take (i := 22) (v := ?_) rfl (by kernel_rfl) (by kernel_rfl) (by kernel_rfl) (by exact fun _ _ _ h => h) (by rfl) ?_ hS ?_
  rotate_left
  · ((intro w hSw; (try dsimp only at hSw); go_simp) <;> with_reducible rfl)
  (try simp only [Act.put, List.setIfInBounds_toArray, List.set_cons_zero, List.set_cons_succ])
  refine any_take (i := 23) (v := .string (str (six ++ on64))) rfl (by kernel_rfl) (by kernel_rfl) (by kernel_rfl) (by exact fun _ _ _ h => h) (by rfl) ?_ hS ?_
  · intro W hSW; have e6 := six_str; simp only [Value.string.injEq] at e6; have s1 : (str six).size = 6 := str_size six; have s2 : (str on64).size = 64 := str_size on64; have s3 := str_app six on64; go_simp
  (try simp only [Act.put, List.setIfInBounds_toArray, List.set_cons_zero, List.set_cons_succ])
  refine any_take (i := 24) (v := .bool true) rfl (by kernel_rfl) (by kernel_rfl) (by kernel_rfl) (by exact fun _ _ _ h => h) (by rfl) ?_ hS ?_
  · intro W hSW; go_simp
  (try simp only [Act.put, List.setIfInBounds_toArray, List.set_cons_zero, List.set_cons_succ])
  refine any_take (i := 25) (v := ?_) rfl (by kernel_rfl) (by kernel_rfl) (by kernel_rfl) (by exact fun _ _ _ h => h) (by rfl) ?_ hS ?_
  rotate_left
  · ((intro w hSw; (try dsimp only at hSw); go_simp) <;> with_reducible rfl)
  (try simp only [Act.put, List.setIfInBounds_toArray, List.set_cons_zero, List.set_cons_succ])
  refine any_take (i := 26) (v := ?_) rfl (by kernel_rfl) (by kernel_rfl) (by kernel_rfl) (by exact fun _ _ _ h => h) (by rfl) ?_ hS ?_
  rotate_left
  · ((intro w hSw; (try dsimp only at hSw); go_simp) <;> with_reducible rfl)
  (try simp only [Act.put, List.setIfInBounds_toArray, List.set_cons_zero])
  refine wpAnyH_done (by kernel_rfl) ?_ _
  have F : Hid _ := below_then H5.out.2 (below_then b6 B2)
  go_wp2_with fail
  go_ret
  exact ⟨rfl, F.out⟩
end Go.Proofs.Ytmkacgdbmojomaa
