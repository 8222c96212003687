/- A reader of pieces in memory. -/
import Derived.Test.YtgonglbgejaffaaXCk3
import Derived.Test.YtgonglbgejaffaaXDraw
namespace Go.Proofs.Ytgonglbgejaffaa
open Go.RowKit
set_option linter.unusedVariables false
set_option linter.unusedSimpArgs false
set_option maxRecDepth 4000

/-- a reader: the image's id and sum, its pieces, how many were added -/
structure CR where
  id : Int
  s : Int
  ps : List (Option (List (BitVec 8)))
  ad : Int
def lenOf (ps : List (Option (List (BitVec 8)))) : Nat := (ps.map (fun o => (o.getD []).length)).sum
/-- where it lies: its own block, those of the two lists, the pieces' values -/
structure CPl where
  g : Nat
  t : Nat
  d : Nat
  vs : List Value
def isB (o : Option (List (BitVec 8))) : Value := .bool o.isSome
def CPl.tv (p : CPl) (n : Nat) : Value := if n = 0 then .slice none 0 0 else .slice (some ⟨p.t, 0, none⟩) n n
def CPl.dv (p : CPl) (n : Nat) : Value := if n = 0 then .slice none 0 0 else .slice (some ⟨p.d, 0, none⟩) n n
structure CrP (w : World) (p : CPl) (m : CR) : Prop where
  blk : Blk w p.g 74 [.int .i64 m.id, .int .u32 m.s, p.tv m.ps.length, p.dv m.ps.length, .int .i64 (lenOf m.ps), .int .i64 m.ad, .int .u32 0, .int .i32 0, .int .u32 0, .bool false]
  there : m.ps.length ≠ 0 → Blk w p.t 4 (m.ps.map isB)
  data : m.ps.length ≠ 0 → Blk w p.d 22 p.vs
  len : p.vs.length = m.ps.length
  each : ∀ (i : Nat) (o : Option (List (BitVec 8))), m.ps[i]? = some o → ∃ v, p.vs[i]? = some v ∧ Own w 0 v (o.getD [])
  ad : 0 ≤ m.ad
/-- the blocks that it may turn; those that it reads -/
def crOb (p : CPl) (m : CR) : Ob := ⟨p.g :: (if m.ps.length = 0 then [] else [p.t, p.d]), p.vs.filterMap (·.ownBlock), fun w => CrP w p m⟩
theorem crOb_stable (p : CPl) (m : CR) (w1 w2 : World) (hb : ∀ k, k ∈ (crOb p m).W ∨ k ∈ (crOb p m).V → w2.heap[k]? = w1.heap[k]?) (h : (crOb p m).P w1) : (crOb p m).P w2 := by
  have hB : ∀ k, k ∈ (crOb p m).W → ∀ T xs, Blk w1 k T xs → Blk w2 k T xs := fun k hk T xs h1 => by unfold Blk at *; rw [hb k (.inl hk)]; exact h1
  have hW : ∀ {k}, m.ps.length ≠ 0 → (k = p.t ∨ k = p.d) → k ∈ (crOb p m).W := fun {k} h0 e => by
    simp only [crOb, if_neg h0, List.mem_cons, List.not_mem_nil, or_false]; exact .inr e
  refine ⟨hB _ (by simp [crOb]) _ _ h.blk, fun h0 => hB _ (hW h0 (.inl rfl)) _ _ (h.there h0), fun h0 => hB _ (hW h0 (.inr rfl)) _ _ (h.data h0), h.len, fun i o hi => ?_, h.ad⟩
  obtain ⟨v, hv, hl⟩ := h.each i o hi
  exact ⟨v, hv, Own.same hl (fun k hk => hb k (.inr (List.mem_filterMap.2 ⟨v, List.mem_of_getElem? hv, hk⟩)))⟩
theorem CrP.vs_own {w : World} {p : CPl} {m : CR} (h : CrP w p m) {k : Nat} (hk : k ∈ p.vs.filterMap (·.ownBlock)) : ∃ v l, Own w 0 v l ∧ v.ownBlock = some k := by
  obtain ⟨v, hv, e⟩ := List.mem_filterMap.1 hk
  obtain ⟨i, hi, rfl⟩ := List.getElem_of_mem hv
  have hi2 : i < m.ps.length := by rw [← h.len]; exact hi
  obtain ⟨u, hu, ho⟩ := h.each i m.ps[i] (List.getElem?_eq_getElem hi2)
  rw [List.getElem?_eq_getElem hi] at hu
  cases hu
  exact ⟨_, _, ho, e⟩
theorem CrP.mem_W {w : World} {p : CPl} {m : CR} (h : CrP w p m) {k : Nat} (hk : k ∈ (crOb p m).W) : ∃ T xs, Blk w k T xs ∧ T ≠ 5 := by
  by_cases h0 : m.ps.length = 0
  · simp only [crOb, if_pos h0, List.mem_singleton] at hk
    exact ⟨_, _, hk ▸ h.blk, by decide⟩
  · simp only [crOb, if_neg h0, List.mem_cons, List.not_mem_nil, or_false] at hk
    rcases hk with rfl | rfl | rfl
    · exact ⟨_, _, h.blk, by decide⟩
    · exact ⟨_, _, h.there h0, by decide⟩
    · exact ⟨_, _, h.data h0, by decide⟩
theorem crOb_ok {w : World} {p : CPl} {m : CR} (h : CrP w p m) : (crOb p m).Ok w := by
  refine ⟨h, fun k hk => ?_, fun k hk hv => ?_, crOb_stable p m⟩
  · rcases hk with hk | hk
    · obtain ⟨T, xs, hb, -⟩ := h.mem_W hk
      exact hb.lt
    · obtain ⟨v, l, ho, e⟩ := h.vs_own hk
      exact (World.ownsRow.lt ho k e).2
  · obtain ⟨T, xs, hb, hT⟩ := h.mem_W hk
    obtain ⟨v, l, ho, e⟩ := h.vs_own hv
    exact own_apart ho hb hT k e rfl
theorem blk_ne {w : World} {a b T U : Nat} {xs ys : List Value} (h : Blk w a T xs) (k : Blk w b U ys) (hT : T ≠ U) : a ≠ b := by
  rintro rfl
  unfold Blk at h k
  rw [h] at k
  cases k
  exact hT rfl
set_option maxHeartbeats 1000000 in
theorem crNew_any (w : World) : Calls Try.prog 14 #[] w fun e w' => e = .returned (.pointer (some ⟨w.heap.size, 0, none⟩)) ∧ (crOb ⟨w.heap.size, 0, 0, []⟩ ⟨0, 0, [], 0⟩).Ok w' ∧ Below w.heap.size w w' := by
  have b1 : Below w.heap.size w (w.alloc (.cells #[.int .i64 0, .int .u32 0, .slice none 0 0, .slice none 0 0, .int .i64 0, .int .i64 0, .int .u32 0, .int .i32 0, .int .u32 0, .bool false] 74)) := (Below.refl _ _).alloc (Nat.le_refl _) _
  have A1 := Blk.new' w 74 [.int .i64 0, .int .u32 0, .slice none 0 0, .slice none 0 0, .int .i64 0, .int .i64 0, .int .u32 0, .int .i32 0, .int .u32 0, .bool false]
  have H : Hid _ := And.intro A1 b1
  clear A1 b1
  go_enter Try.func14, Try.ntmps14
  go_wp2
  go_ret
  exact ⟨rfl, crOb_ok ⟨H.out.1, fun h => absurd rfl h, fun h => absurd rfl h, rfl, fun i o hi => by simp at hi, Int.le_refl _⟩, H.out.2⟩
end Go.Proofs.Ytgonglbgejaffaa

