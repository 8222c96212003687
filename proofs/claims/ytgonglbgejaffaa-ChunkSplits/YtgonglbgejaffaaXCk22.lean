/- Bytes that are no piece: turned, cut, longer. -/
import Derived.Test.YtgonglbgejaffaaXCk16
import Derived.Test.YtgonglbgejaffaaXCrc
import Derived.Test.YtgonglbgejaffaaXCk13
import Derived.Test.YtgonglbgejaffaaXDraw
namespace Go.Proofs.Ytgonglbgejaffaa
open Go.RowKit Go.Shelf
set_option linter.unusedVariables false
set_option linter.unusedSimpArgs false
set_option maxRecDepth 4000

theorem rdNum_inv {L : List (BitVec 8)} {E : Int} {s : Nat} (h : (rdNum L E s).2.1 = 0) : E = 0 ∧ s ≤ L.length ∧ (rdNum L E s).1 = L.drop s := by
  unfold rdNum at h ⊢
  by_cases e : E = 0
  · rw [if_pos e] at h ⊢
    by_cases n : numE L.length s = 0
    · rw [if_pos n] at h ⊢
      obtain ⟨s', hs, _, _, h3⟩ := numE_0 n
      exact ⟨e, by omega, by rw [Int.toNat_natCast]⟩
    · rw [if_neg n] at h; exact absurd h n
  · rw [if_neg e] at h; exact absurd h e
theorem rdBytes_inv {L : List (BitVec 8)} {E : Int} (h : (rdBytes L E 2).2.1 = 0) : E = 0 ∧ 2 + (numTo L 0 2).toNat ≤ L.length ∧ (rdBytes L E 2).1 = L.drop (2 + (numTo L 0 2).toNat) := by
  unfold rdBytes at h ⊢
  have e2 : (2 : Int).toNat = 2 := rfl
  by_cases e : E = 0
  · rw [if_pos e] at h ⊢
    by_cases n : cutE L 2 = 0
    · rw [if_pos n] at h ⊢
      have hN : cutN L 2 = 2 + (numTo L 0 2).toNat := by unfold cutN; rw [if_pos n, e2]
      refine ⟨e, ?_, by rw [hN]⟩
      unfold cutE at n
      rw [e2] at n
      split at n
      · cases n
      · split at n
        · cases n
        · split at n
          · cases n
          · split at n
            · cases n
            · omega
    · rw [if_neg n] at h; exact absurd h n
  · rw [if_neg e] at h; exact absurd h e
theorem rdEnd_inv {L : List (BitVec 8)} {E : Int} (h : rdEnd L E = 0) : E = 0 ∧ L.length = 0 := by
  unfold rdEnd at h
  by_cases e : E = 0
  · rw [if_pos e] at h
    by_cases n : 0 < L.length
    · rw [if_pos n] at h; cases h
    · exact ⟨e, by omega⟩
  · rw [if_neg e] at h; exact absurd h e
/-- bytes that are read to their end are as long as they say -/
theorem dc7_size {X : List (BitVec 8)} (h : dc7 X = 0) : X.length = 22 + (numTo (X.drop 16) 0 2).toNat := by
  obtain ⟨h6, l6⟩ := rdEnd_inv h
  obtain ⟨h5, l5, e6⟩ := rdNum_inv (s := 4) h6
  obtain ⟨h4, l4, e5⟩ := rdBytes_inv h5
  obtain ⟨h3, l3, e4⟩ := rdNum_inv (s := 4) h4
  obtain ⟨h2, l2, e3⟩ := rdNum_inv (s := 2) h3
  obtain ⟨h1, l1, e2⟩ := rdNum_inv (s := 2) h2
  obtain ⟨-, l0, e1⟩ := rdNum_inv (s := 8) h1
  have e1' : (dc1 X).1 = X.drop 8 := e1
  have e2' : (dc2 X).1 = X.drop 10 := by show (rdNum (dc1 X).1 (dc1 X).2.1 2).1 = _; rw [show (rdNum (dc1 X).1 (dc1 X).2.1 2).1 = (dc1 X).1.drop 2 from e2, e1', List.drop_drop]
  have e3' : (dc3 X).1 = X.drop 12 := by show (rdNum (dc2 X).1 (dc2 X).2.1 2).1 = _; rw [show (rdNum (dc2 X).1 (dc2 X).2.1 2).1 = (dc2 X).1.drop 2 from e3, e2', List.drop_drop]
  have e4' : (dc4 X).1 = X.drop 16 := by show (rdNum (dc3 X).1 (dc3 X).2.1 4).1 = _; rw [show (rdNum (dc3 X).1 (dc3 X).2.1 4).1 = (dc3 X).1.drop 4 from e4, e3', List.drop_drop]
  have e5' : (dc5 X).1 = X.drop (16 + (2 + (numTo (X.drop 16) 0 2).toNat)) := by show (rdBytes (dc4 X).1 (dc4 X).2.1 2).1 = _; rw [show (rdBytes (dc4 X).1 (dc4 X).2.1 2).1 = _ from e5, e4', List.drop_drop]
  have e6' : (dc6 X).1 = (dc5 X).1.drop 4 := e6
  rw [e6', e5', List.drop_drop, List.length_drop] at l6
  rw [e5', List.length_drop] at l5
  omega
theorem dcE_no {X : List (BitVec 8)} (h : X.length ≠ 22 + (numTo (X.drop 16) 0 2).toNat) : dcE X ≠ 0 := by
  have h7 : dc7 X ≠ 0 := fun e => h (dc7_size e)
  unfold dcE
  rw [if_neg h7]
  exact h7
theorem piece_7 {P : List (BitVec 8)} (h : dcE P = 0) : dc7 P = 0 := by
  unfold dcE at h
  by_cases e : dc7 P = 0
  · exact e
  · rw [if_neg e] at h; exact absurd h e
theorem dcE_cut {P : List (BitVec 8)} (h : dcE P = 0) (c : Nat) (hc : c < P.length) : dcE (P.take c) ≠ 0 := by
  have hs := dc7_size (piece_7 h)
  refine dcE_no ?_
  intro e
  rw [List.length_take] at e
  have e2 : numTo ((P.take c).drop 16) 0 2 = numTo (P.drop 16) 0 2 := by
    unfold numTo
    rw [List.drop_zero, List.drop_zero, List.drop_take, List.take_take, Nat.min_eq_left (by omega)]
  rw [e2] at e
  omega
theorem dcE_long {P : List (BitVec 8)} (h : dcE P = 0) (x : BitVec 8) : dcE (P ++ [x]) ≠ 0 := by
  have hs := dc7_size (piece_7 h)
  refine dcE_no ?_
  intro e
  rw [List.length_append] at e
  have e2 : numTo ((P ++ [x]).drop 16) 0 2 = numTo (P.drop 16) 0 2 := by
    unfold numTo
    rw [List.drop_zero, List.drop_zero, List.drop_append_of_le_length (by omega), List.take_append_of_le_length (by rw [List.length_drop]; omega)]
  rw [e2] at e
  simp at e
  omega
theorem rdNum_go {L : List (BitVec 8)} {s : Nat} (h0 : 1 ≤ s) (h1 : s ≤ 8) (h : s ≤ L.length) : rdNum L 0 s = (L.drop s, 0, wrap64 ((numTo L 0 s).toNat : Int)) := by
  have hw : widthB s = true := by unfold widthB; rw [decide_eq_true_eq]; omega
  have hn : numE L.length s = 0 := by unfold numE; rw [hw, if_neg (by decide), if_neg (by omega)]
  unfold rdNum
  rw [if_pos rfl, if_pos hn, Int.toNat_natCast]
/-- bytes of which what stands ahead of the length, or the data, is another -/
theorem dcE_turned {A d T : List (BitVec 8)} {S : BitVec 32} (hA : A.length = 16) (hd : d.length ≤ 4096) (hT : T = be 4 (BitVec.ofInt 64 (S.toNat : Int))) (hS : S ≠ Crc.sum (A ++ (be 2 (BitVec.ofNat 64 d.length) ++ d))) : dcE (A ++ (be 2 (BitVec.ofNat 64 d.length) ++ d) ++ T) = 12 := by
  have hb := be_length 2 (BitVec.ofNat 64 d.length) (by omega)
  have ht : T.length = 4 := by rw [hT]; exact be_length _ _ (by omega)
  obtain ⟨D, hD⟩ : ∃ D, D = be 2 (BitVec.ofNat 64 d.length) ++ d := ⟨_, rfl⟩
  have hDl : D.length = 2 + d.length := by rw [hD, List.length_append, hb]
  rw [← hD] at hS ⊢
  obtain ⟨X, hX⟩ : ∃ X, X = A ++ D ++ T := ⟨_, rfl⟩
  rw [← hX]
  have hl : X.length = 22 + d.length := by rw [hX, List.length_append, List.length_append]; omega
  have g1 : (dc1 X).1 = X.drop 8 ∧ (dc1 X).2.1 = 0 := by unfold dc1; rw [show (8 : Int) = ((8 : Nat) : Int) from rfl, rdNum_go (by omega) (by omega) (by omega)]; exact ⟨rfl, rfl⟩
  have g2 : (dc2 X).1 = X.drop 10 ∧ (dc2 X).2.1 = 0 := by unfold dc2; rw [g1.1, g1.2, show (2 : Int) = ((2 : Nat) : Int) from rfl, rdNum_go (by omega) (by omega) (by rw [List.length_drop]; omega)]; exact ⟨by rw [List.drop_drop], rfl⟩
  have g3 : (dc3 X).1 = X.drop 12 ∧ (dc3 X).2.1 = 0 := by unfold dc3; rw [g2.1, g2.2, show (2 : Int) = ((2 : Nat) : Int) from rfl, rdNum_go (by omega) (by omega) (by rw [List.length_drop]; omega)]; exact ⟨by rw [List.drop_drop], rfl⟩
  have g4 : (dc4 X).1 = X.drop 16 ∧ (dc4 X).2.1 = 0 := by unfold dc4; rw [g3.1, g3.2, show (4 : Int) = ((4 : Nat) : Int) from rfl, rdNum_go (by omega) (by omega) (by rw [List.length_drop]; omega)]; exact ⟨by rw [List.drop_drop], rfl⟩
  have hdr : X.drop 16 = D ++ T := by rw [hX, List.append_assoc]; exact List.drop_left' hA
  have g5 : dc5 X = (T, 0, d) := by unfold dc5; rw [g4.1, g4.2, hdr, hD]; exact rd_bytes7 d T hd
  have hs2 := S.isLt
  have g6 : dc6 X = ([], 0, (S.toNat : Int)) := by
    unfold dc6; rw [g5, hT]
    have := rd_num7 4 (S.toNat : Int) [] (by omega) (by omega) (by simp only [Nat.reduceMul, Int.reducePow]; omega) (by omega)
    rw [List.append_nil] at this
    exact this
  have g7 : dc7 X = 0 := by unfold dc7; rw [g6]; rfl
  have eT : X.take (X.length - 4) = A ++ D := by
    rw [hl, hX]; exact List.take_left' (by rw [List.length_append]; omega)
  unfold dcE
  rw [if_pos g7, g6, eT, if_neg]
  intro e
  apply hS
  apply BitVec.eq_of_toNat_eq
  have : ((S.toNat : Nat) : Int) = ((Crc.sum (A ++ D)).toNat : Int) := e
  omega
end Go.Proofs.Ytgonglbgejaffaa

/- A reader of pieces in whatever state it is: closed or not, its bytes let go of or not. -/
namespace Go.Proofs.Ytgonglbgejaffaa
open Go.RowKit
set_option linter.unusedVariables false
set_option linter.unusedSimpArgs false
set_option maxRecDepth 4000

structure CQl where
  g : Nat
  t : Nat
  d : Nat
  vs : List Value
  c6 : Value
  cl : Bool
/-- there are too many bytes -/
def ovB (ps : List (Option (List (BitVec 8)))) : Bool := decide (65536 < lenOf ps)
def CQl.tv (p : CQl) (n : Nat) : Value := if n = 0 then .slice none 0 0 else .slice (some ⟨p.t, 0, none⟩) n n
def CQl.dv (p : CQl) (ps : List (Option (List (BitVec 8)))) : Value := if ps.length = 0 ∨ ovB ps = true then .slice none 0 0 else .slice (some ⟨p.d, 0, none⟩) ps.length ps.length
structure CqP (w : World) (p : CQl) (m : CR) : Prop where
  blk : Blk w p.g 74 [.int .i64 m.id, .int .u32 m.s, p.tv m.ps.length, p.dv m.ps, .int .i64 (lenOf m.ps), .int .i64 m.ad, p.c6, .int .i32 0, .int .u32 0, .bool p.cl]
  there : m.ps.length ≠ 0 → Blk w p.t 4 (m.ps.map isB)
  data : m.ps.length ≠ 0 → ovB m.ps = false → Blk w p.d 22 p.vs
  len : ovB m.ps = false → p.vs.length = m.ps.length
  over : ovB m.ps = true → p.vs = []
  each : ovB m.ps = false → ∀ (i : Nat) (o : Option (List (BitVec 8))), m.ps[i]? = some o → ∃ v, p.vs[i]? = some v ∧ Own w 0 v (o.getD [])
  ad : 0 ≤ m.ad
  once : p.c6 = .int .u32 (if p.cl = true then 1 else 0)
def cqW (p : CQl) (ps : List (Option (List (BitVec 8)))) : List Nat := p.g :: (if ps.length = 0 then [] else p.t :: (if ovB ps = true then [] else [p.d]))
/-- the blocks that it may turn; those that it reads -/
def cqOb (p : CQl) (m : CR) : Ob := ⟨cqW p m.ps, p.vs.filterMap (·.ownBlock), fun w => CqP w p m⟩
theorem mem_cqW {p : CQl} {ps : List (Option (List (BitVec 8)))} {k : Nat} : k ∈ cqW p ps ↔ k = p.g ∨ (ps.length ≠ 0 ∧ k = p.t) ∨ (ps.length ≠ 0 ∧ ovB ps = false ∧ k = p.d) := by
  unfold cqW
  by_cases h0 : ps.length = 0
  · rw [if_pos h0]; simp [h0]
  · rw [if_neg h0]
    cases ho : ovB ps <;> simp [h0]
theorem cqOb_stable (p : CQl) (m : CR) (w1 w2 : World) (hb : ∀ k, k ∈ (cqOb p m).W ∨ k ∈ (cqOb p m).V → w2.heap[k]? = w1.heap[k]?) (h : (cqOb p m).P w1) : (cqOb p m).P w2 := by
  have hB : ∀ k, k ∈ (cqOb p m).W → ∀ T xs, Blk w1 k T xs → Blk w2 k T xs := fun k hk T xs h1 => by unfold Blk at *; rw [hb k (.inl hk)]; exact h1
  refine ⟨hB _ (mem_cqW.2 (.inl rfl)) _ _ h.blk, fun h0 => hB _ (mem_cqW.2 (.inr (.inl ⟨h0, rfl⟩))) _ _ (h.there h0), fun h0 h1 => hB _ (mem_cqW.2 (.inr (.inr ⟨h0, h1, rfl⟩))) _ _ (h.data h0 h1), h.len, h.over, fun h0 i o hi => ?_, h.ad, h.once⟩
  obtain ⟨v, hv, hl⟩ := h.each h0 i o hi
  exact ⟨v, hv, Own.same hl (fun k hk => hb k (.inr (List.mem_filterMap.2 ⟨v, List.mem_of_getElem? hv, hk⟩)))⟩
theorem CqP.vs_own {w : World} {p : CQl} {m : CR} (h : CqP w p m) {k : Nat} (hk : k ∈ p.vs.filterMap (·.ownBlock)) : ∃ v l, Own w 0 v l ∧ v.ownBlock = some k := by
  obtain ⟨v, hv, e⟩ := List.mem_filterMap.1 hk
  cases ho : ovB m.ps with
  | true => rw [h.over ho] at hv; cases hv
  | false =>
    obtain ⟨i, hi, rfl⟩ := List.getElem_of_mem hv
    have hi2 : i < m.ps.length := by rw [← h.len ho]; exact hi
    obtain ⟨u, hu, ho⟩ := h.each ho i m.ps[i] (List.getElem?_eq_getElem hi2)
    rw [List.getElem?_eq_getElem hi] at hu
    cases hu
    exact ⟨_, _, ho, e⟩
theorem CqP.mem_W {w : World} {p : CQl} {m : CR} (h : CqP w p m) {k : Nat} (hk : k ∈ (cqOb p m).W) : ∃ T xs, Blk w k T xs ∧ T ≠ 5 := by
  rcases mem_cqW.1 hk with rfl | ⟨h0, rfl⟩ | ⟨h0, h1, rfl⟩
  · exact ⟨_, _, h.blk, by decide⟩
  · exact ⟨_, _, h.there h0, by decide⟩
  · exact ⟨_, _, h.data h0 h1, by decide⟩
theorem cqOb_ok {w : World} {p : CQl} {m : CR} (h : CqP w p m) : (cqOb p m).Ok w := by
  refine ⟨h, fun k hk => ?_, fun k hk hv => ?_, cqOb_stable p m⟩
  · rcases hk with hk | hk
    · obtain ⟨T, xs, hb, -⟩ := h.mem_W hk
      exact hb.lt
    · obtain ⟨v, l, ho, e⟩ := h.vs_own hk
      exact (World.ownsRow.lt ho k e).2
  · obtain ⟨T, xs, hb, hT⟩ := h.mem_W hk
    obtain ⟨v, l, ho, e⟩ := h.vs_own hv
    exact own_apart ho hb hT k e rfl
def cr0 : CR := ⟨0, 0, [], 0⟩
theorem cqNew_any (w : World) : Calls Try.prog 14 #[] w fun e w' => e = .returned (.pointer (some ⟨w.heap.size, 0, none⟩)) ∧ (cqOb ⟨w.heap.size, 0, 0, [], .int .u32 0, false⟩ cr0).Ok w' ∧ Below w.heap.size w w' := by
  refine (crNew_any w).mono ?_
  rintro e w' ⟨rfl, h, hb⟩
  refine ⟨rfl, cqOb_ok ⟨h.holds.blk, fun h0 => absurd rfl h0, fun h0 => absurd rfl h0, fun _ => rfl, fun _ => rfl, fun _ i o hi => ?_, Int.le_refl _, rfl⟩, hb⟩
  cases hi
theorem ovB_none (n : Nat) : ovB (List.replicate n none) = false := by unfold ovB; rw [lenOf_none]; rfl
theorem cqBegin_any (p : CQl) (m : CR) (id num : Int) (cnt : Nat) (s : Int) (x : Option Addr) (n c : Nat) (w : World) (h : (cqOb p m).Ok w) (hc : 1 ≤ cnt ∧ cnt ≤ 256) :
    Calls Try.prog 36 #[.pointer (some ⟨p.g, 0, none⟩), .agg #[.int .i64 id, .int .i64 num, .int .i64 cnt, .int .u32 s, .slice x n c]] w fun e w' => e = .returned (.tuple #[]) ∧ ∃ p', p'.g = p.g ∧ p'.cl = p.cl ∧ Step w w' (cqOb p m) (cqOb p' (begM m id s cnt)) := by
  refine (begin_raw p.g _ _ _ _ _ _ _ _ _ _ id num cnt s x n c w h.holds.blk hc.2).mono ?_
  rintro e w' ⟨rfl, t, d, ht, hd, hG, hB, hL, hT⟩
  have hps : (begM m id s cnt).ps = List.replicate cnt none := rfl
  have hpl : (begM m id s cnt).ps.length = cnt := by rw [hps, List.length_replicate]
  have hov : ovB (begM m id s cnt).ps = false := by rw [hps]; exact ovB_none cnt
  have hok : CqP w' ⟨p.g, t, d, List.replicate cnt (.slice none 0 0), p.c6, p.cl⟩ (begM m id s cnt) := by
    refine ⟨?_, fun _ => ?_, fun _ _ => hL, fun _ => by simp [begM], fun h0 => (by rw [hov] at h0; cases h0), fun _ i o hi => ?_, h.holds.ad, h.holds.once⟩
    · rw [show lenOf (begM m id s cnt).ps = 0 from lenOf_none cnt]
      unfold CQl.tv CQl.dv
      rw [hov, hpl, if_neg (by omega), if_neg (by simp; omega)]
      exact hG
    · have : (begM m id s cnt).ps.map isB = List.replicate cnt (.bool false) := by simp [begM, isB]
      rw [this]
      exact hB
    · have hic : i < cnt := by
        have := (List.getElem?_eq_some_iff.1 hi).1
        simpa [begM] using this
      have ho : o = none := by
        have := hi
        simp [begM, List.getElem?_replicate, hic] at this
        exact this.symm
      subst ho
      refine ⟨.slice none 0 0, by simp [List.getElem?_replicate, hic], World.ownsRow_nil _ _ _ _⟩
  refine ⟨rfl, ⟨p.g, t, d, List.replicate cnt (.slice none 0 0), p.c6, p.cl⟩, rfl, rfl, hT.mono (fun k e => by subst e; exact mem_cqW.2 (.inl rfl)), cqOb_ok hok, fun k hk => ?_, fun k hk => ?_⟩
  · rcases mem_cqW.1 hk with rfl | ⟨h0, rfl⟩ | ⟨h0, h1, rfl⟩
    · exact .inl (mem_cqW.2 (.inl rfl))
    · exact .inr ht
    · exact .inr hd
  · exfalso
    obtain ⟨v, hv, e⟩ := List.mem_filterMap.1 hk
    obtain rfl := (List.mem_replicate.1 hv).2
    cases e
end Go.Proofs.Ytgonglbgejaffaa

/- put: one piece more, whatever the reader holds. -/
namespace Go.Proofs.Ytgonglbgejaffaa
open Go.RowKit
set_option linter.unusedVariables false
set_option linter.unusedSimpArgs false
set_option maxRecDepth 4000

set_option maxHeartbeats 4000000 in
theorem put_there2 (g t N num len : Nat) (bs : List Value) (c0 c1 c3 c5 c6 c7 c8 c9 : Value) (id : Int) (cnt : Nat) (s : Int) (x : Option Addr) (n c : Nat) (w : World) (hG : Blk w g 74 [c0, c1, .slice (some ⟨t, 0, none⟩) N N, c3, .int .i64 len, c5, c6, c7, c8, c9]) (hT : Blk w t 4 bs) (hnum : num < N) (hb : bs[num]? = some (.bool true)) :
    Calls Try.prog 37 #[.pointer (some ⟨g, 0, none⟩), .agg #[.int .i64 id, .int .i64 num, .int .i64 cnt, .int .u32 s, .slice x n c]] w fun e w' => e = .returned (.tuple #[]) ∧ Below w.heap.size w w' := by
  have b0 : Below w.heap.size w (w.alloc (.cells #[.int .i64 id, .int .i64 num, .int .i64 cnt, .int .u32 s, .slice x n c] 56)).drew := ((Below.refl _ _).alloc (Nat.le_refl _) _).drew
  have HB : Hid _ := And.intro b0 trivial
  clear b0
  have b1 : Below w.heap.size w (w.alloc (.cells #[.int .i64 id, .int .i64 num, .int .i64 cnt, .int .u32 s, .slice x n c] 56)) := (Below.refl _ _).alloc (Nat.le_refl _) _
  have hP0 := Blk.new' w 56 [.int .i64 id, .int .i64 num, .int .i64 cnt, .int .u32 s, .slice x n c]
  obtain ⟨P, hPe⟩ : ∃ P, P = w.heap.size := ⟨_, rfl⟩
  have H1 : Hid (Blk (w.alloc (.cells #[.int .i64 id, .int .i64 num, .int .i64 cnt, .int .u32 s, .slice x n c] 56)) g 74 [c0, c1, .slice (some ⟨t, 0, none⟩) N N, c3, .int .i64 len, c5, c6, c7, c8, c9] ∧ Blk (w.alloc (.cells #[.int .i64 id, .int .i64 num, .int .i64 cnt, .int .u32 s, .slice x n c] 56)) t 4 (bs) ∧ Blk (w.alloc (.cells #[.int .i64 id, .int .i64 num, .int .i64 cnt, .int .u32 s, .slice x n c] 56)) P 56 [.int .i64 id, .int .i64 num, .int .i64 cnt, .int .u32 s, .slice x n c] ∧ Turned (fun k => k = g ∨ k = t) w (w.alloc (.cells #[.int .i64 id, .int .i64 num, .int .i64 cnt, .int .u32 s, .slice x n c] 56))) := by
    refine ⟨hG.laterB b1, hT.laterB b1, ?_, tnd6 b1⟩
    rw [hPe]; exact hP0
  have q1 : (num : Int) < N := by omega
  clear hP0 b1 hG hT
  go_enter Try.func37, Try.ntmps37
  go_upto_region 1 with fail
  rw [← hPe]
  generalize (w.alloc (.cells #[.int .i64 id, .int .i64 num, .int .i64 cnt, .int .u32 s, .slice x n c] 56)) = w1 at *
  clear hPe
  refine wp_region_held_drew (S := fun W => Blk W g 74 [c0, c1, .slice (some ⟨t, 0, none⟩) N N, c3, .int .i64 len, c5, c6, c7, c8, c9] ∧ Blk W t 4 (bs) ∧ Blk W P 56 [.int .i64 id, .int .i64 num, .int .i64 cnt, .int .u32 s, .slice x n c] ∧ Turned (fun k => k = g ∨ k = t) w W) (by kernel_rfl) (⟨H1.out.1.laterB (Below.refl _ _).drew, H1.out.2.1.laterB (Below.refl _ _).drew, H1.out.2.2.1.laterB (Below.refl _ _).drew, H1.out.2.2.2.trans (tnd6 (Below.refl _ _).drew)⟩) (fun hS => ?_)
  refine any_take (i := 0) (v := ?_) rfl (by kernel_rfl) (by kernel_rfl) (by kernel_rfl) (by exact fun _ _ _ h => h) (by rfl) ?_ hS ?_
  rotate_left
  · ((intro w hSw; have f0 := blk_at hSw.1 2; have f1 := blk_at hSw.1 3; have f2 := blk_at hSw.1 4; have f3 := blk_at hSw.2.2.1 1; have f4 := blk_at hSw.2.2.1 4; have f5 := blk_at hSw.2.1 num; have f6 := blk_frozen hSw.2.1 num; have f7 := blk_frozen hSw.1 4; have f8 := blk_frozen hSw.1 3; rw [hb] at f5; simp only [List.getElem?_cons_zero, List.getElem?_cons_succ] at f0 f1 f2 f3 f4; clear hSw; go_simp) <;> with_reducible rfl)
  (try simp only [Act.put, List.setIfInBounds_toArray, List.set_cons_zero, List.set_cons_succ])
  refine any_take (i := 1) (v := ?_) rfl (by kernel_rfl) (by kernel_rfl) (by kernel_rfl) (by exact fun _ _ _ h => h) (by rfl) ?_ hS ?_
  rotate_left
  · ((intro w hSw; have f0 := blk_at hSw.1 2; have f1 := blk_at hSw.1 3; have f2 := blk_at hSw.1 4; have f3 := blk_at hSw.2.2.1 1; have f4 := blk_at hSw.2.2.1 4; have f5 := blk_at hSw.2.1 num; have f6 := blk_frozen hSw.2.1 num; have f7 := blk_frozen hSw.1 4; have f8 := blk_frozen hSw.1 3; rw [hb] at f5; simp only [List.getElem?_cons_zero, List.getElem?_cons_succ] at f0 f1 f2 f3 f4; clear hSw; go_simp) <;> with_reducible rfl)
  (try simp only [Act.put, List.setIfInBounds_toArray, List.set_cons_zero, List.set_cons_succ])
  refine any_take (i := 2) (v := ?_) rfl (by kernel_rfl) (by kernel_rfl) (by kernel_rfl) (by exact fun _ _ _ h => h) (by rfl) ?_ hS ?_
  rotate_left
  · ((intro w hSw; have f0 := blk_at hSw.1 2; have f1 := blk_at hSw.1 3; have f2 := blk_at hSw.1 4; have f3 := blk_at hSw.2.2.1 1; have f4 := blk_at hSw.2.2.1 4; have f5 := blk_at hSw.2.1 num; have f6 := blk_frozen hSw.2.1 num; have f7 := blk_frozen hSw.1 4; have f8 := blk_frozen hSw.1 3; rw [hb] at f5; simp only [List.getElem?_cons_zero, List.getElem?_cons_succ] at f0 f1 f2 f3 f4; clear hSw; go_simp) <;> with_reducible rfl)
  (try simp only [Act.put, List.setIfInBounds_toArray, List.set_cons_zero, List.set_cons_succ])
  refine any_take (i := 3) (v := ?_) rfl (by kernel_rfl) (by kernel_rfl) (by kernel_rfl) (by exact fun _ _ _ h => h) (by rfl) ?_ hS ?_
  rotate_left
  · ((intro w hSw; have f0 := blk_at hSw.1 2; have f1 := blk_at hSw.1 3; have f2 := blk_at hSw.1 4; have f3 := blk_at hSw.2.2.1 1; have f4 := blk_at hSw.2.2.1 4; have f5 := blk_at hSw.2.1 num; have f6 := blk_frozen hSw.2.1 num; have f7 := blk_frozen hSw.1 4; have f8 := blk_frozen hSw.1 3; rw [hb] at f5; simp only [List.getElem?_cons_zero, List.getElem?_cons_succ] at f0 f1 f2 f3 f4; clear hSw; go_simp) <;> with_reducible rfl)
  (try simp only [Act.put, List.setIfInBounds_toArray, List.set_cons_zero, List.set_cons_succ])
  refine any_take (i := 4) (v := ?_) rfl (by kernel_rfl) (by kernel_rfl) (by kernel_rfl) (by exact fun _ _ _ h => h) (by rfl) ?_ hS ?_
  rotate_left
  · ((intro w hSw; have f0 := blk_at hSw.1 2; have f1 := blk_at hSw.1 3; have f2 := blk_at hSw.1 4; have f3 := blk_at hSw.2.2.1 1; have f4 := blk_at hSw.2.2.1 4; have f5 := blk_at hSw.2.1 num; have f6 := blk_frozen hSw.2.1 num; have f7 := blk_frozen hSw.1 4; have f8 := blk_frozen hSw.1 3; rw [hb] at f5; simp only [List.getElem?_cons_zero, List.getElem?_cons_succ] at f0 f1 f2 f3 f4; clear hSw; go_simp) <;> with_reducible rfl)
  (try simp only [Act.put, List.setIfInBounds_toArray, List.set_cons_zero, List.set_cons_succ])
  refine any_take (i := 5) (v := ?_) rfl (by kernel_rfl) (by kernel_rfl) (by kernel_rfl) (by exact fun _ _ _ h => h) (by rfl) ?_ hS ?_
  rotate_left
  · ((intro w hSw; have f0 := blk_at hSw.1 2; have f1 := blk_at hSw.1 3; have f2 := blk_at hSw.1 4; have f3 := blk_at hSw.2.2.1 1; have f4 := blk_at hSw.2.2.1 4; have f5 := blk_at hSw.2.1 num; have f6 := blk_frozen hSw.2.1 num; have f7 := blk_frozen hSw.1 4; have f8 := blk_frozen hSw.1 3; rw [hb] at f5; simp only [List.getElem?_cons_zero, List.getElem?_cons_succ] at f0 f1 f2 f3 f4; clear hSw; go_simp) <;> with_reducible rfl)
  (try simp only [Act.put, List.setIfInBounds_toArray, List.set_cons_zero, List.set_cons_succ])
  refine any_take (i := 6) (v := ?_) rfl (by kernel_rfl) (by kernel_rfl) (by kernel_rfl) (by exact fun _ _ _ h => h) (by rfl) ?_ hS ?_
  rotate_left
  · ((intro w hSw; have f0 := blk_at hSw.1 2; have f1 := blk_at hSw.1 3; have f2 := blk_at hSw.1 4; have f3 := blk_at hSw.2.2.1 1; have f4 := blk_at hSw.2.2.1 4; have f5 := blk_at hSw.2.1 num; have f6 := blk_frozen hSw.2.1 num; have f7 := blk_frozen hSw.1 4; have f8 := blk_frozen hSw.1 3; rw [hb] at f5; simp only [List.getElem?_cons_zero, List.getElem?_cons_succ] at f0 f1 f2 f3 f4; clear hSw; go_simp) <;> with_reducible rfl)
  (try simp only [Act.put, List.setIfInBounds_toArray, List.set_cons_zero, List.set_cons_succ])
  refine any_take (i := 7) (v := ?_) rfl (by kernel_rfl) (by kernel_rfl) (by kernel_rfl) (by exact fun _ _ _ h => h) (by rfl) ?_ hS ?_
  rotate_left
  · ((intro w hSw; have f0 := blk_at hSw.1 2; have f1 := blk_at hSw.1 3; have f2 := blk_at hSw.1 4; have f3 := blk_at hSw.2.2.1 1; have f4 := blk_at hSw.2.2.1 4; have f5 := blk_at hSw.2.1 num; have f6 := blk_frozen hSw.2.1 num; have f7 := blk_frozen hSw.1 4; have f8 := blk_frozen hSw.1 3; rw [hb] at f5; simp only [List.getElem?_cons_zero, List.getElem?_cons_succ] at f0 f1 f2 f3 f4; clear hSw; go_simp) <;> with_reducible rfl)
  (try simp only [Act.put, List.setIfInBounds_toArray, List.set_cons_zero, List.set_cons_succ])
  refine wpAnyH_done (by kernel_rfl) ?_ _
  clear hS
  clear H1
  go_wp2
  (try simp only [Exit.inBlock, Exit.then])
  refine bodyPost_ret (results_none rfl _ _ _) rfl ?_
  exact ⟨rfl, HB.out.1⟩
set_option maxHeartbeats 4000000 in
theorem put_over (g t N num len : Nat) (bs : List Value) (c0 c1 c3 c5 c6 c7 c8 c9 : Value) (id : Int) (cnt : Nat) (s : Int) (x : Option Addr) (n c : Nat) (w : World) (hG : Blk w g 74 [c0, c1, .slice (some ⟨t, 0, none⟩) N N, c3, .int .i64 len, c5, c6, c7, c8, c9]) (hT : Blk w t 4 bs) (hnum : num < N) (hb : bs[num]? = some (.bool false)) (hlen : 65536 < len + n) (hlb : len + n ≤ 1000000000000) :
    Calls Try.prog 37 #[.pointer (some ⟨g, 0, none⟩), .agg #[.int .i64 id, .int .i64 num, .int .i64 cnt, .int .u32 s, .slice x n c]] w fun e w' => e = .returned (.tuple #[]) ∧ Blk w' g 74 [c0, c1, .slice (some ⟨t, 0, none⟩) N N, .slice none 0 0, .int .i64 ((len : Int) + n), c5, c6, c7, c8, c9] ∧ Blk w' t 4 (bs.set num (.bool true)) ∧ Turned (fun k => k = g ∨ k = t) w w' := by
  have b1 : Below w.heap.size w (w.alloc (.cells #[.int .i64 id, .int .i64 num, .int .i64 cnt, .int .u32 s, .slice x n c] 56)) := (Below.refl _ _).alloc (Nat.le_refl _) _
  have hP0 := Blk.new' w 56 [.int .i64 id, .int .i64 num, .int .i64 cnt, .int .u32 s, .slice x n c]
  obtain ⟨P, hPe⟩ : ∃ P, P = w.heap.size := ⟨_, rfl⟩
  have H1 : Hid (Blk (w.alloc (.cells #[.int .i64 id, .int .i64 num, .int .i64 cnt, .int .u32 s, .slice x n c] 56)) g 74 [c0, c1, .slice (some ⟨t, 0, none⟩) N N, c3, .int .i64 len, c5, c6, c7, c8, c9] ∧ Blk (w.alloc (.cells #[.int .i64 id, .int .i64 num, .int .i64 cnt, .int .u32 s, .slice x n c] 56)) t 4 (bs) ∧ Blk (w.alloc (.cells #[.int .i64 id, .int .i64 num, .int .i64 cnt, .int .u32 s, .slice x n c] 56)) P 56 [.int .i64 id, .int .i64 num, .int .i64 cnt, .int .u32 s, .slice x n c] ∧ Turned (fun k => k = g ∨ k = t) w (w.alloc (.cells #[.int .i64 id, .int .i64 num, .int .i64 cnt, .int .u32 s, .slice x n c] 56))) := by
    refine ⟨hG.laterB b1, hT.laterB b1, ?_, tnd6 b1⟩
    rw [hPe]; exact hP0
  have q1 : (num : Int) < N := by omega
  clear hP0 b1 hG hT
  go_enter Try.func37, Try.ntmps37
  go_upto_region 1 with fail
  rw [← hPe]
  generalize (w.alloc (.cells #[.int .i64 id, .int .i64 num, .int .i64 cnt, .int .u32 s, .slice x n c] 56)) = w1 at *
  clear hPe
  have q2 : ¬ ((len : Int) + n ≤ 65536) := by omega
  have q3 : (len : Int) + n ≤ 1000000000000 := by omega
  refine wp_region_held_drew (S := fun W => Blk W g 74 [c0, c1, .slice (some ⟨t, 0, none⟩) N N, c3, .int .i64 len, c5, c6, c7, c8, c9] ∧ Blk W t 4 (bs) ∧ Blk W P 56 [.int .i64 id, .int .i64 num, .int .i64 cnt, .int .u32 s, .slice x n c] ∧ Turned (fun k => k = g ∨ k = t) w W) (by kernel_rfl) (⟨H1.out.1.laterB (Below.refl _ _).drew, H1.out.2.1.laterB (Below.refl _ _).drew, H1.out.2.2.1.laterB (Below.refl _ _).drew, H1.out.2.2.2.trans (tnd6 (Below.refl _ _).drew)⟩) (fun hS => ?_)
  refine any_take (i := 0) (v := ?_) rfl (by kernel_rfl) (by kernel_rfl) (by kernel_rfl) (by exact fun _ _ _ h => h) (by rfl) ?_ hS ?_
  rotate_left
  · ((intro w hSw; have f0 := blk_at hSw.1 2; have f1 := blk_at hSw.1 3; have f2 := blk_at hSw.1 4; have f3 := blk_at hSw.2.2.1 1; have f4 := blk_at hSw.2.2.1 4; have f5 := blk_at hSw.2.1 num; have f6 := blk_frozen hSw.2.1 num; have f7 := blk_frozen hSw.1 4; have f8 := blk_frozen hSw.1 3; rw [hb] at f5; simp only [List.getElem?_cons_zero, List.getElem?_cons_succ] at f0 f1 f2 f3 f4; clear hSw; go_simp) <;> with_reducible rfl)
  (try simp only [Act.put, List.setIfInBounds_toArray, List.set_cons_zero, List.set_cons_succ])
  refine any_take (i := 1) (v := ?_) rfl (by kernel_rfl) (by kernel_rfl) (by kernel_rfl) (by exact fun _ _ _ h => h) (by rfl) ?_ hS ?_
  rotate_left
  · ((intro w hSw; have f0 := blk_at hSw.1 2; have f1 := blk_at hSw.1 3; have f2 := blk_at hSw.1 4; have f3 := blk_at hSw.2.2.1 1; have f4 := blk_at hSw.2.2.1 4; have f5 := blk_at hSw.2.1 num; have f6 := blk_frozen hSw.2.1 num; have f7 := blk_frozen hSw.1 4; have f8 := blk_frozen hSw.1 3; rw [hb] at f5; simp only [List.getElem?_cons_zero, List.getElem?_cons_succ] at f0 f1 f2 f3 f4; clear hSw; go_simp) <;> with_reducible rfl)
  (try simp only [Act.put, List.setIfInBounds_toArray, List.set_cons_zero, List.set_cons_succ])
  refine any_take (i := 2) (v := ?_) rfl (by kernel_rfl) (by kernel_rfl) (by kernel_rfl) (by exact fun _ _ _ h => h) (by rfl) ?_ hS ?_
  rotate_left
  · ((intro w hSw; have f0 := blk_at hSw.1 2; have f1 := blk_at hSw.1 3; have f2 := blk_at hSw.1 4; have f3 := blk_at hSw.2.2.1 1; have f4 := blk_at hSw.2.2.1 4; have f5 := blk_at hSw.2.1 num; have f6 := blk_frozen hSw.2.1 num; have f7 := blk_frozen hSw.1 4; have f8 := blk_frozen hSw.1 3; rw [hb] at f5; simp only [List.getElem?_cons_zero, List.getElem?_cons_succ] at f0 f1 f2 f3 f4; clear hSw; go_simp) <;> with_reducible rfl)
  (try simp only [Act.put, List.setIfInBounds_toArray, List.set_cons_zero, List.set_cons_succ])
  refine any_take (i := 3) (v := ?_) rfl (by kernel_rfl) (by kernel_rfl) (by kernel_rfl) (by exact fun _ _ _ h => h) (by rfl) ?_ hS ?_
  rotate_left
  · ((intro w hSw; have f0 := blk_at hSw.1 2; have f1 := blk_at hSw.1 3; have f2 := blk_at hSw.1 4; have f3 := blk_at hSw.2.2.1 1; have f4 := blk_at hSw.2.2.1 4; have f5 := blk_at hSw.2.1 num; have f6 := blk_frozen hSw.2.1 num; have f7 := blk_frozen hSw.1 4; have f8 := blk_frozen hSw.1 3; rw [hb] at f5; simp only [List.getElem?_cons_zero, List.getElem?_cons_succ] at f0 f1 f2 f3 f4; clear hSw; go_simp) <;> with_reducible rfl)
  (try simp only [Act.put, List.setIfInBounds_toArray, List.set_cons_zero, List.set_cons_succ])
  refine any_take (i := 4) (v := ?_) rfl (by kernel_rfl) (by kernel_rfl) (by kernel_rfl) (by exact fun _ _ _ h => h) (by rfl) ?_ hS ?_
  rotate_left
  · ((intro w hSw; have f0 := blk_at hSw.1 2; have f1 := blk_at hSw.1 3; have f2 := blk_at hSw.1 4; have f3 := blk_at hSw.2.2.1 1; have f4 := blk_at hSw.2.2.1 4; have f5 := blk_at hSw.2.1 num; have f6 := blk_frozen hSw.2.1 num; have f7 := blk_frozen hSw.1 4; have f8 := blk_frozen hSw.1 3; rw [hb] at f5; simp only [List.getElem?_cons_zero, List.getElem?_cons_succ] at f0 f1 f2 f3 f4; clear hSw; go_simp) <;> with_reducible rfl)
  (try simp only [Act.put, List.setIfInBounds_toArray, List.set_cons_zero, List.set_cons_succ])
  refine any_take (i := 5) (v := ?_) rfl (by kernel_rfl) (by kernel_rfl) (by kernel_rfl) (by exact fun _ _ _ h => h) (by rfl) ?_ hS ?_
  rotate_left
  · ((intro w hSw; have f0 := blk_at hSw.1 2; have f1 := blk_at hSw.1 3; have f2 := blk_at hSw.1 4; have f3 := blk_at hSw.2.2.1 1; have f4 := blk_at hSw.2.2.1 4; have f5 := blk_at hSw.2.1 num; have f6 := blk_frozen hSw.2.1 num; have f7 := blk_frozen hSw.1 4; have f8 := blk_frozen hSw.1 3; rw [hb] at f5; simp only [List.getElem?_cons_zero, List.getElem?_cons_succ] at f0 f1 f2 f3 f4; clear hSw; go_simp) <;> with_reducible rfl)
  (try simp only [Act.put, List.setIfInBounds_toArray, List.set_cons_zero, List.set_cons_succ])
  refine any_take (i := 6) (v := ?_) rfl (by kernel_rfl) (by kernel_rfl) (by kernel_rfl) (by exact fun _ _ _ h => h) (by rfl) ?_ hS ?_
  rotate_left
  · ((intro w hSw; have f0 := blk_at hSw.1 2; have f1 := blk_at hSw.1 3; have f2 := blk_at hSw.1 4; have f3 := blk_at hSw.2.2.1 1; have f4 := blk_at hSw.2.2.1 4; have f5 := blk_at hSw.2.1 num; have f6 := blk_frozen hSw.2.1 num; have f7 := blk_frozen hSw.1 4; have f8 := blk_frozen hSw.1 3; rw [hb] at f5; simp only [List.getElem?_cons_zero, List.getElem?_cons_succ] at f0 f1 f2 f3 f4; clear hSw; go_simp) <;> with_reducible rfl)
  (try simp only [Act.put, List.setIfInBounds_toArray, List.set_cons_zero, List.set_cons_succ])
  refine any_take (i := 7) (v := ?_) rfl (by kernel_rfl) (by kernel_rfl) (by kernel_rfl) (by exact fun _ _ _ h => h) (by rfl) ?_ hS ?_
  rotate_left
  · ((intro w hSw; have f0 := blk_at hSw.1 2; have f1 := blk_at hSw.1 3; have f2 := blk_at hSw.1 4; have f3 := blk_at hSw.2.2.1 1; have f4 := blk_at hSw.2.2.1 4; have f5 := blk_at hSw.2.1 num; have f6 := blk_frozen hSw.2.1 num; have f7 := blk_frozen hSw.1 4; have f8 := blk_frozen hSw.1 3; rw [hb] at f5; simp only [List.getElem?_cons_zero, List.getElem?_cons_succ] at f0 f1 f2 f3 f4; clear hSw; go_simp) <;> with_reducible rfl)
  (try simp only [Act.put, List.setIfInBounds_toArray, List.set_cons_zero, List.set_cons_succ])
  refine wpAnyH_done (by kernel_rfl) ?_ _
  clear hS
  have H2 : Hid (Blk w1.drew g 74 [c0, c1, .slice (some ⟨t, 0, none⟩) N N, c3, .int .i64 len, c5, c6, c7, c8, c9] ∧ Blk w1.drew t 4 (bs) ∧ Blk w1.drew P 56 [.int .i64 id, .int .i64 num, .int .i64 cnt, .int .u32 s, .slice x n c] ∧ Turned (fun k => k = g ∨ k = t) w w1.drew) := ⟨H1.out.1.laterB (Below.refl _ _).drew, H1.out.2.1.laterB (Below.refl _ _).drew, H1.out.2.2.1.laterB (Below.refl _ _).drew, H1.out.2.2.2.trans (tnd6 (Below.refl _ _).drew)⟩
  clear H1
  generalize w1.drew = w2 at *
  go_upto_region 2 with fail
  refine e_begin (S := fun W => Blk W g 74 [c0, c1, .slice (some ⟨t, 0, none⟩) N N, c3, .int .i64 len, c5, c6, c7, c8, c9] ∧ Blk W t 4 (bs) ∧ Blk W P 56 [.int .i64 id, .int .i64 num, .int .i64 cnt, .int .u32 s, .slice x n c] ∧ Turned (fun k => k = g ∨ k = t) w W) 7 (by kernel_rfl) (⟨H2.out.1.laterB (Below.refl _ _).drew, H2.out.2.1.laterB (Below.refl _ _).drew, H2.out.2.2.1.laterB (Below.refl _ _).drew, H2.out.2.2.2.trans (tnd6 (Below.refl _ _).drew)⟩) (fun hS => ?_)
  refine e_take (i := 0) (v := ?_) [1, 2, 3, 6, 7] rfl (by kernel_rfl) (by kernel_rfl) (by kernel_rfl) (by kernel_rfl) (by exact fun _ _ _ h => h) (by rfl) ?_ hS ?_
  rotate_left
  · ((intro w hSw; have f0 := blk_at hSw.1 2; have f1 := blk_at hSw.1 3; have f2 := blk_at hSw.1 4; have f3 := blk_at hSw.2.2.1 1; have f4 := blk_at hSw.2.2.1 4; have f5 := blk_at hSw.2.1 num; have f6 := blk_frozen hSw.2.1 num; have f7 := blk_frozen hSw.1 4; have f8 := blk_frozen hSw.1 3; rw [hb] at f5; simp only [List.getElem?_cons_zero, List.getElem?_cons_succ] at f0 f1 f2 f3 f4; clear hSw; go_simp) <;> with_reducible rfl)
  (try simp only [Act.put, List.setIfInBounds_toArray, List.set_cons_zero, List.set_cons_succ])
  refine e_take (i := 1) (v := ?_) [2, 3, 6, 7] rfl (by kernel_rfl) (by kernel_rfl) (by kernel_rfl) (by kernel_rfl) (by exact fun _ _ _ h => h) (by rfl) ?_ hS ?_
  rotate_left
  · ((intro w hSw; have f0 := blk_at hSw.1 2; have f1 := blk_at hSw.1 3; have f2 := blk_at hSw.1 4; have f3 := blk_at hSw.2.2.1 1; have f4 := blk_at hSw.2.2.1 4; have f5 := blk_at hSw.2.1 num; have f6 := blk_frozen hSw.2.1 num; have f7 := blk_frozen hSw.1 4; have f8 := blk_frozen hSw.1 3; rw [hb] at f5; simp only [List.getElem?_cons_zero, List.getElem?_cons_succ] at f0 f1 f2 f3 f4; clear hSw; go_simp) <;> with_reducible rfl)
  (try simp only [Act.put, List.setIfInBounds_toArray, List.set_cons_zero, List.set_cons_succ])
  refine e_take (i := 2) (v := ?_) [3, 6, 7] rfl (by kernel_rfl) (by kernel_rfl) (by kernel_rfl) (by kernel_rfl) (by exact fun _ _ _ h => h) (by rfl) ?_ hS ?_
  rotate_left
  · ((intro w hSw; have f0 := blk_at hSw.1 2; have f1 := blk_at hSw.1 3; have f2 := blk_at hSw.1 4; have f3 := blk_at hSw.2.2.1 1; have f4 := blk_at hSw.2.2.1 4; have f5 := blk_at hSw.2.1 num; have f6 := blk_frozen hSw.2.1 num; have f7 := blk_frozen hSw.1 4; have f8 := blk_frozen hSw.1 3; rw [hb] at f5; simp only [List.getElem?_cons_zero, List.getElem?_cons_succ] at f0 f1 f2 f3 f4; clear hSw; go_simp) <;> with_reducible rfl)
  (try simp only [Act.put, List.setIfInBounds_toArray, List.set_cons_zero, List.set_cons_succ])
  refine e_take (i := 3) (v := ?_) [6, 7] rfl (by kernel_rfl) (by kernel_rfl) (by kernel_rfl) (by kernel_rfl) (by exact fun _ _ _ h => h) (by rfl) ?_ hS ?_
  rotate_left
  · ((intro w hSw; have f0 := blk_at hSw.1 2; have f1 := blk_at hSw.1 3; have f2 := blk_at hSw.1 4; have f3 := blk_at hSw.2.2.1 1; have f4 := blk_at hSw.2.2.1 4; have f5 := blk_at hSw.2.1 num; have f6 := blk_frozen hSw.2.1 num; have f7 := blk_frozen hSw.1 4; have f8 := blk_frozen hSw.1 3; rw [hb] at f5; simp only [List.getElem?_cons_zero, List.getElem?_cons_succ] at f0 f1 f2 f3 f4; clear hSw; go_simp) <;> with_reducible rfl)
  (try simp only [Act.put, List.setIfInBounds_toArray, List.set_cons_zero, List.set_cons_succ])
  refine e_take (i := 4) (v := ?_) [5, 6, 7] rfl (by kernel_rfl) (by kernel_rfl) (by kernel_rfl) (by kernel_rfl) (by exact fun _ _ _ h => h) (by rfl) ?_ hS ?_
  rotate_left
  · ((intro w hSw; have f0 := blk_at hSw.1 2; have f1 := blk_at hSw.1 3; have f2 := blk_at hSw.1 4; have f3 := blk_at hSw.2.2.1 1; have f4 := blk_at hSw.2.2.1 4; have f5 := blk_at hSw.2.1 num; have f6 := blk_frozen hSw.2.1 num; have f7 := blk_frozen hSw.1 4; have f8 := blk_frozen hSw.1 3; rw [hb] at f5; simp only [List.getElem?_cons_zero, List.getElem?_cons_succ] at f0 f1 f2 f3 f4; clear hSw; go_simp) <;> with_reducible rfl)
  (try simp only [Act.put, List.setIfInBounds_toArray, List.set_cons_zero, List.set_cons_succ])
  refine e_take (i := 5) (v := ?_) [6, 7] rfl (by kernel_rfl) (by kernel_rfl) (by kernel_rfl) (by kernel_rfl) (by exact fun _ _ _ h => h) (by rfl) ?_ hS ?_
  rotate_left
  · ((intro w hSw; have f0 := blk_at hSw.1 2; have f1 := blk_at hSw.1 3; have f2 := blk_at hSw.1 4; have f3 := blk_at hSw.2.2.1 1; have f4 := blk_at hSw.2.2.1 4; have f5 := blk_at hSw.2.1 num; have f6 := blk_frozen hSw.2.1 num; have f7 := blk_frozen hSw.1 4; have f8 := blk_frozen hSw.1 3; rw [hb] at f5; simp only [List.getElem?_cons_zero, List.getElem?_cons_succ] at f0 f1 f2 f3 f4; clear hSw; go_simp) <;> with_reducible rfl)
  (try simp only [Act.put, List.setIfInBounds_toArray, List.set_cons_zero, List.set_cons_succ])
  refine e_take (i := 6) (v := ?_) [7] rfl (by kernel_rfl) (by kernel_rfl) (by kernel_rfl) (by kernel_rfl) (by exact fun _ _ _ h => h) (by rfl) ?_ hS ?_
  rotate_left
  · ((intro w hSw; have f0 := blk_at hSw.1 2; have f1 := blk_at hSw.1 3; have f2 := blk_at hSw.1 4; have f3 := blk_at hSw.2.2.1 1; have f4 := blk_at hSw.2.2.1 4; have f5 := blk_at hSw.2.1 num; have f6 := blk_frozen hSw.2.1 num; have f7 := blk_frozen hSw.1 4; have f8 := blk_frozen hSw.1 3; rw [hb] at f5; simp only [List.getElem?_cons_zero, List.getElem?_cons_succ] at f0 f1 f2 f3 f4; clear hSw; go_simp) <;> with_reducible rfl)
  (try simp only [Act.put, List.setIfInBounds_toArray, List.set_cons_zero, List.set_cons_succ])
  have HS : Hid _ := And.intro hS trivial
  have f0 := blk_at HS.out.1.1 2
  have f1 := blk_at HS.out.1.1 3
  have f2 := blk_at HS.out.1.1 4
  have f3 := blk_at HS.out.1.2.2.1 1
  have f4 := blk_at HS.out.1.2.2.1 4
  have f5 := blk_at HS.out.1.2.1 num
  have f6 := blk_frozen HS.out.1.2.1 num
  have f7 := blk_frozen HS.out.1.1 4
  have f8 := blk_frozen HS.out.1.1 3
  rw [hb] at f5
  simp only [List.getElem?_cons_zero, List.getElem?_cons_succ] at f0 f1 f2 f3 f4
  clear hS
  refine e_last (z := 7) rfl (by kernel_rfl) (fun K hK => ?_)
  go_simp
  refine hK.out _ _ ?_
  clear hK K
  refine e_done (by kernel_rfl) ?_ _
  clear f5
  clear f0 f1 f2 f3 f4 f6 f7 f8
  have H3n : Hid (Blk (w2.setCell ⟨t, num, none⟩ (.bool true)) g 74 [c0, c1, .slice (some ⟨t, 0, none⟩) N N, c3, .int .i64 len, c5, c6, c7, c8, c9] ∧ Blk (w2.setCell ⟨t, num, none⟩ (.bool true)) t 4 (bs.set num (.bool true)) ∧ Blk (w2.setCell ⟨t, num, none⟩ (.bool true)) P 56 [.int .i64 id, .int .i64 num, .int .i64 cnt, .int .u32 s, .slice x n c] ∧ Turned (fun k => k = g ∨ k = t) w (w2.setCell ⟨t, num, none⟩ (.bool true))) := by
    have u := turned_set w2 t num (.bool true)
    refine ⟨H2.out.1.turned u ?_, H2.out.2.1.set num _, H2.out.2.2.1.turned u ?_, H2.out.2.2.2.trans (u.mono (fun k e => .inl (.inr e)))⟩
    · exact blk_ne H2.out.1 H2.out.2.1 (by decide)
    · exact blk_ne H2.out.2.2.1 H2.out.2.1 (by decide)
  have H3 : Hid (Blk (w2.setCell ⟨t, num, none⟩ (.bool true)).drew g 74 [c0, c1, .slice (some ⟨t, 0, none⟩) N N, c3, .int .i64 len, c5, c6, c7, c8, c9] ∧ Blk (w2.setCell ⟨t, num, none⟩ (.bool true)).drew t 4 (bs.set num (.bool true)) ∧ Blk (w2.setCell ⟨t, num, none⟩ (.bool true)).drew P 56 [.int .i64 id, .int .i64 num, .int .i64 cnt, .int .u32 s, .slice x n c] ∧ Turned (fun k => k = g ∨ k = t) w (w2.setCell ⟨t, num, none⟩ (.bool true)).drew) := ⟨H3n.out.1.laterB (Below.refl _ _).drew, H3n.out.2.1.laterB (Below.refl _ _).drew, H3n.out.2.2.1.laterB (Below.refl _ _).drew, H3n.out.2.2.2.trans (tnd6 (Below.refl _ _).drew)⟩
  clear H2 H3n
  generalize (w2.setCell ⟨t, num, none⟩ (.bool true)).drew = w3 at *
  go_upto_region 3 with fail
  refine e_begin (S := fun W => Blk W g 74 [c0, c1, .slice (some ⟨t, 0, none⟩) N N, c3, .int .i64 len, c5, c6, c7, c8, c9] ∧ Blk W t 4 (bs.set num (.bool true)) ∧ Blk W P 56 [.int .i64 id, .int .i64 num, .int .i64 cnt, .int .u32 s, .slice x n c] ∧ Turned (fun k => k = g ∨ k = t) w W) 10 (by kernel_rfl) (⟨H3.out.1.laterB (Below.refl _ _).drew, H3.out.2.1.laterB (Below.refl _ _).drew, H3.out.2.2.1.laterB (Below.refl _ _).drew, H3.out.2.2.2.trans (tnd6 (Below.refl _ _).drew)⟩) (fun hS => ?_)
  refine e_take (i := 0) (v := ?_) [8, 9, 10] rfl (by kernel_rfl) (by kernel_rfl) (by kernel_rfl) (by kernel_rfl) (by exact fun _ _ _ h => h) (by rfl) ?_ hS ?_
  rotate_left
  · ((intro w hSw; have f0 := blk_at hSw.1 2; have f1 := blk_at hSw.1 3; have f2 := blk_at hSw.1 4; have f3 := blk_at hSw.2.2.1 1; have f4 := blk_at hSw.2.2.1 4; have f5 := blk_at hSw.2.1 num; have f6 := blk_frozen hSw.2.1 num; have f7 := blk_frozen hSw.1 4; have f8 := blk_frozen hSw.1 3; clear f5; simp only [List.getElem?_cons_zero, List.getElem?_cons_succ] at f0 f1 f2 f3 f4; clear hSw; go_simp) <;> with_reducible rfl)
  (try simp only [Act.put, List.setIfInBounds_toArray, List.set_cons_zero, List.set_cons_succ])
  refine e_take (i := 1) (v := ?_) [2, 3, 7, 10] rfl (by kernel_rfl) (by kernel_rfl) (by kernel_rfl) (by kernel_rfl) (by exact fun _ _ _ h => h) (by rfl) ?_ hS ?_
  rotate_left
  · ((intro w hSw; have f0 := blk_at hSw.1 2; have f1 := blk_at hSw.1 3; have f2 := blk_at hSw.1 4; have f3 := blk_at hSw.2.2.1 1; have f4 := blk_at hSw.2.2.1 4; have f5 := blk_at hSw.2.1 num; have f6 := blk_frozen hSw.2.1 num; have f7 := blk_frozen hSw.1 4; have f8 := blk_frozen hSw.1 3; clear f5; simp only [List.getElem?_cons_zero, List.getElem?_cons_succ] at f0 f1 f2 f3 f4; clear hSw; go_simp) <;> with_reducible rfl)
  (try simp only [Act.put, List.setIfInBounds_toArray, List.set_cons_zero, List.set_cons_succ])
  refine e_take (i := 2) (v := ?_) [3, 7, 10] rfl (by kernel_rfl) (by kernel_rfl) (by kernel_rfl) (by kernel_rfl) (by exact fun _ _ _ h => h) (by rfl) ?_ hS ?_
  rotate_left
  · ((intro w hSw; have f0 := blk_at hSw.1 2; have f1 := blk_at hSw.1 3; have f2 := blk_at hSw.1 4; have f3 := blk_at hSw.2.2.1 1; have f4 := blk_at hSw.2.2.1 4; have f5 := blk_at hSw.2.1 num; have f6 := blk_frozen hSw.2.1 num; have f7 := blk_frozen hSw.1 4; have f8 := blk_frozen hSw.1 3; clear f5; simp only [List.getElem?_cons_zero, List.getElem?_cons_succ] at f0 f1 f2 f3 f4; clear hSw; go_simp) <;> with_reducible rfl)
  (try simp only [Act.put, List.setIfInBounds_toArray, List.set_cons_zero, List.set_cons_succ])
  refine e_take (i := 3) (v := ?_) [7, 10] rfl (by kernel_rfl) (by kernel_rfl) (by kernel_rfl) (by kernel_rfl) (by exact fun _ _ _ h => h) (by rfl) ?_ hS ?_
  rotate_left
  · ((intro w hSw; have f0 := blk_at hSw.1 2; have f1 := blk_at hSw.1 3; have f2 := blk_at hSw.1 4; have f3 := blk_at hSw.2.2.1 1; have f4 := blk_at hSw.2.2.1 4; have f5 := blk_at hSw.2.1 num; have f6 := blk_frozen hSw.2.1 num; have f7 := blk_frozen hSw.1 4; have f8 := blk_frozen hSw.1 3; clear f5; simp only [List.getElem?_cons_zero, List.getElem?_cons_succ] at f0 f1 f2 f3 f4; clear hSw; go_simp) <;> with_reducible rfl)
  (try simp only [Act.put, List.setIfInBounds_toArray, List.set_cons_zero, List.set_cons_succ])
  refine e_take (i := 4) (v := ?_) [5, 6, 7, 10] rfl (by kernel_rfl) (by kernel_rfl) (by kernel_rfl) (by kernel_rfl) (by exact fun _ _ _ h => h) (by rfl) ?_ hS ?_
  rotate_left
  · ((intro w hSw; have f0 := blk_at hSw.1 2; have f1 := blk_at hSw.1 3; have f2 := blk_at hSw.1 4; have f3 := blk_at hSw.2.2.1 1; have f4 := blk_at hSw.2.2.1 4; have f5 := blk_at hSw.2.1 num; have f6 := blk_frozen hSw.2.1 num; have f7 := blk_frozen hSw.1 4; have f8 := blk_frozen hSw.1 3; clear f5; simp only [List.getElem?_cons_zero, List.getElem?_cons_succ] at f0 f1 f2 f3 f4; clear hSw; go_simp) <;> with_reducible rfl)
  (try simp only [Act.put, List.setIfInBounds_toArray, List.set_cons_zero, List.set_cons_succ])
  refine e_take (i := 5) (v := ?_) [6, 7, 10] rfl (by kernel_rfl) (by kernel_rfl) (by kernel_rfl) (by kernel_rfl) (by exact fun _ _ _ h => h) (by rfl) ?_ hS ?_
  rotate_left
  · ((intro w hSw; have f0 := blk_at hSw.1 2; have f1 := blk_at hSw.1 3; have f2 := blk_at hSw.1 4; have f3 := blk_at hSw.2.2.1 1; have f4 := blk_at hSw.2.2.1 4; have f5 := blk_at hSw.2.1 num; have f6 := blk_frozen hSw.2.1 num; have f7 := blk_frozen hSw.1 4; have f8 := blk_frozen hSw.1 3; clear f5; simp only [List.getElem?_cons_zero, List.getElem?_cons_succ] at f0 f1 f2 f3 f4; clear hSw; go_simp) <;> with_reducible rfl)
  (try simp only [Act.put, List.setIfInBounds_toArray, List.set_cons_zero, List.set_cons_succ])
  refine e_take (i := 6) (v := ?_) [7, 10] rfl (by kernel_rfl) (by kernel_rfl) (by kernel_rfl) (by kernel_rfl) (by exact fun _ _ _ h => h) (by rfl) ?_ hS ?_
  rotate_left
  · ((intro w hSw; have f0 := blk_at hSw.1 2; have f1 := blk_at hSw.1 3; have f2 := blk_at hSw.1 4; have f3 := blk_at hSw.2.2.1 1; have f4 := blk_at hSw.2.2.1 4; have f5 := blk_at hSw.2.1 num; have f6 := blk_frozen hSw.2.1 num; have f7 := blk_frozen hSw.1 4; have f8 := blk_frozen hSw.1 3; clear f5; simp only [List.getElem?_cons_zero, List.getElem?_cons_succ] at f0 f1 f2 f3 f4; clear hSw; go_simp) <;> with_reducible rfl)
  (try simp only [Act.put, List.setIfInBounds_toArray, List.set_cons_zero, List.set_cons_succ])
  refine e_take (i := 7) (v := ?_) [10] rfl (by kernel_rfl) (by kernel_rfl) (by kernel_rfl) (by kernel_rfl) (by exact fun _ _ _ h => h) (by rfl) ?_ hS ?_
  rotate_left
  · ((intro w hSw; have f0 := blk_at hSw.1 2; have f1 := blk_at hSw.1 3; have f2 := blk_at hSw.1 4; have f3 := blk_at hSw.2.2.1 1; have f4 := blk_at hSw.2.2.1 4; have f5 := blk_at hSw.2.1 num; have f6 := blk_frozen hSw.2.1 num; have f7 := blk_frozen hSw.1 4; have f8 := blk_frozen hSw.1 3; clear f5; simp only [List.getElem?_cons_zero, List.getElem?_cons_succ] at f0 f1 f2 f3 f4; clear hSw; go_simp) <;> with_reducible rfl)
  (try simp only [Act.put, List.setIfInBounds_toArray, List.set_cons_zero, List.set_cons_succ])
  refine e_take (i := 8) (v := ?_) [9, 10] rfl (by kernel_rfl) (by kernel_rfl) (by kernel_rfl) (by kernel_rfl) (by exact fun _ _ _ h => h) (by rfl) ?_ hS ?_
  rotate_left
  · ((intro w hSw; have f0 := blk_at hSw.1 2; have f1 := blk_at hSw.1 3; have f2 := blk_at hSw.1 4; have f3 := blk_at hSw.2.2.1 1; have f4 := blk_at hSw.2.2.1 4; have f5 := blk_at hSw.2.1 num; have f6 := blk_frozen hSw.2.1 num; have f7 := blk_frozen hSw.1 4; have f8 := blk_frozen hSw.1 3; clear f5; simp only [List.getElem?_cons_zero, List.getElem?_cons_succ] at f0 f1 f2 f3 f4; clear hSw; go_simp) <;> with_reducible rfl)
  (try simp only [Act.put, List.setIfInBounds_toArray, List.set_cons_zero, List.set_cons_succ])
  refine e_take (i := 9) (v := ?_) [10] rfl (by kernel_rfl) (by kernel_rfl) (by kernel_rfl) (by kernel_rfl) (by exact fun _ _ _ h => h) (by rfl) ?_ hS ?_
  rotate_left
  · ((intro w hSw; have f0 := blk_at hSw.1 2; have f1 := blk_at hSw.1 3; have f2 := blk_at hSw.1 4; have f3 := blk_at hSw.2.2.1 1; have f4 := blk_at hSw.2.2.1 4; have f5 := blk_at hSw.2.1 num; have f6 := blk_frozen hSw.2.1 num; have f7 := blk_frozen hSw.1 4; have f8 := blk_frozen hSw.1 3; clear f5; simp only [List.getElem?_cons_zero, List.getElem?_cons_succ] at f0 f1 f2 f3 f4; clear hSw; go_simp) <;> with_reducible rfl)
  (try simp only [Act.put, List.setIfInBounds_toArray, List.set_cons_zero, List.set_cons_succ])
  have HS : Hid _ := And.intro hS trivial
  have f0 := blk_at HS.out.1.1 2
  have f1 := blk_at HS.out.1.1 3
  have f2 := blk_at HS.out.1.1 4
  have f3 := blk_at HS.out.1.2.2.1 1
  have f4 := blk_at HS.out.1.2.2.1 4
  have f5 := blk_at HS.out.1.2.1 num
  have f6 := blk_frozen HS.out.1.2.1 num
  have f7 := blk_frozen HS.out.1.1 4
  have f8 := blk_frozen HS.out.1.1 3
  clear f5
  simp only [List.getElem?_cons_zero, List.getElem?_cons_succ] at f0 f1 f2 f3 f4
  clear hS
  refine e_last (z := 10) rfl (by kernel_rfl) (fun K hK => ?_)
  go_simp
  refine hK.out _ _ ?_
  clear hK K
  refine e_done (by kernel_rfl) ?_ _
  clear f0 f1 f2 f3 f4 f6 f7 f8
  have H4n : Hid (Blk (w3.setCell ⟨g, 4, none⟩ (.int .i64 ((len : Int) + n))) g 74 [c0, c1, .slice (some ⟨t, 0, none⟩) N N, c3, .int .i64 ((len : Int) + n), c5, c6, c7, c8, c9] ∧ Blk (w3.setCell ⟨g, 4, none⟩ (.int .i64 ((len : Int) + n))) t 4 (bs.set num (.bool true)) ∧ Blk (w3.setCell ⟨g, 4, none⟩ (.int .i64 ((len : Int) + n))) P 56 [.int .i64 id, .int .i64 num, .int .i64 cnt, .int .u32 s, .slice x n c] ∧ Turned (fun k => k = g ∨ k = t) w (w3.setCell ⟨g, 4, none⟩ (.int .i64 ((len : Int) + n)))) := by
    have u := turned_set w3 g 4 (.int .i64 ((len : Int) + n))
    refine ⟨H3.out.1.set 4 _, H3.out.2.1.turned u ?_, H3.out.2.2.1.turned u ?_, H3.out.2.2.2.trans (u.mono (fun k e => .inl (.inl e)))⟩
    · exact blk_ne H3.out.2.1 H3.out.1 (by decide)
    · exact blk_ne H3.out.2.2.1 H3.out.1 (by decide)
  have H4 : Hid (Blk (w3.setCell ⟨g, 4, none⟩ (.int .i64 ((len : Int) + n))).drew g 74 [c0, c1, .slice (some ⟨t, 0, none⟩) N N, c3, .int .i64 ((len : Int) + n), c5, c6, c7, c8, c9] ∧ Blk (w3.setCell ⟨g, 4, none⟩ (.int .i64 ((len : Int) + n))).drew t 4 (bs.set num (.bool true)) ∧ Blk (w3.setCell ⟨g, 4, none⟩ (.int .i64 ((len : Int) + n))).drew P 56 [.int .i64 id, .int .i64 num, .int .i64 cnt, .int .u32 s, .slice x n c] ∧ Turned (fun k => k = g ∨ k = t) w (w3.setCell ⟨g, 4, none⟩ (.int .i64 ((len : Int) + n))).drew) := ⟨H4n.out.1.laterB (Below.refl _ _).drew, H4n.out.2.1.laterB (Below.refl _ _).drew, H4n.out.2.2.1.laterB (Below.refl _ _).drew, H4n.out.2.2.2.trans (tnd6 (Below.refl _ _).drew)⟩
  clear H3 H4n
  have hwr : IntKind.i64.wrap ((len : Int) + n) = (len : Int) + n := by rw [IntKind.wrap_i64]; omega
  (try simp only [hwr])
  generalize (w3.setCell ⟨g, 4, none⟩ (.int .i64 ((len : Int) + n))).drew = w4 at *
  have F0 : Hid (Blk (w4.setCell ⟨g, 3, none⟩ (.slice none 0 0)) g 74 [c0, c1, .slice (some ⟨t, 0, none⟩) N N, .slice none 0 0, .int .i64 ((len : Int) + n), c5, c6, c7, c8, c9] ∧ Blk (w4.setCell ⟨g, 3, none⟩ (.slice none 0 0)) t 4 (bs.set num (.bool true)) ∧ Turned (fun k => k = g ∨ k = t) w (w4.setCell ⟨g, 3, none⟩ (.slice none 0 0))) := by
    have u := turned_set w4 g 3 (.slice none 0 0)
    exact ⟨H4.out.1.set 3 _, H4.out.2.1.turned u (blk_ne H4.out.2.1 H4.out.1 (by decide)), H4.out.2.2.2.trans (u.mono (fun k e => .inl (.inl e)))⟩
  have f0 := blk_at H4.out.1 2
  have f1 := blk_at H4.out.1 3
  have f2 := blk_at H4.out.1 4
  have f3 := blk_at H4.out.2.2.1 1
  have f4 := blk_at H4.out.2.2.1 4
  have f5 := blk_at H4.out.2.1 num
  have f6 := blk_frozen H4.out.2.1 num
  have f7 := blk_frozen H4.out.1 4
  have f8 := blk_frozen H4.out.1 3
  clear f5
  simp only [List.getElem?_cons_zero, List.getElem?_cons_succ] at f0 f1 f2 f3 f4
  clear H4
  have q4 : (65536 : Int) < (len : Int) + n := by omega
  go_wp2
  (try simp only [Exit.inBlock, Exit.then])
  refine bodyPost_ret (results_none rfl _ _ _) rfl ?_
  exact ⟨rfl, F0.out⟩
theorem cqPut_any (p : CQl) (m : CR) (id : Int) (i cnt : Nat) (s : Int) (x : Option Addr) (c : Nat) (l : List (BitVec 8)) (w : World) (h : (cqOb p m).Ok w) (hi : i < m.ps.length) (hl : lenOf m.ps + l.length ≤ 1000000000000) (ho : Own w 0 (.slice x l.length c) l) (hno : ∀ k, Value.ownBlock (.slice x l.length c) = some k → k ∉ (cqOb p m).W) :
    Calls Try.prog 37 #[.pointer (some ⟨p.g, 0, none⟩), .agg #[.int .i64 id, .int .i64 i, .int .i64 cnt, .int .u32 s, .slice x l.length c]] w fun e w' => e = .returned (.tuple #[]) ∧ ∃ p', p'.g = p.g ∧ p'.cl = p.cl ∧ (cqOb p' (setPc m i l)).Ok w' ∧ Turned (· ∈ (cqOb p m).W) w w' ∧ (∀ k ∈ (cqOb p' (setPc m i l)).W, k ∈ (cqOb p m).W) ∧ ∀ k ∈ (cqOb p' (setPc m i l)).V, k ∈ (cqOb p m).V ∨ Value.ownBlock (.slice x l.length c) = some k := by
  have hP := h.holds
  have hne : m.ps.length ≠ 0 := by omega
  have hG := hP.blk
  unfold CQl.tv at hG
  rw [if_neg hne] at hG
  have hbi : (m.ps.map isB)[i]? = some (isB m.ps[i]) := by rw [List.getElem?_map, List.getElem?_eq_getElem hi]; rfl
  rcases hpi : m.ps[i] with _ | d0
  · have hsi : m.ps[i]? = some none := by rw [List.getElem?_eq_getElem hi, hpi]
    have hM : setPc m i l = { m with ps := m.ps.set i (some l) } := by unfold setPc; rw [hsi]
    have hlen := lenOf_set m.ps i l hsi
    rw [hpi] at hbi
    by_cases hov : 65536 < lenOf m.ps + l.length
    · have hov' : ovB (m.ps.set i (some l)) = true := by unfold ovB; rw [hlen, decide_eq_true_eq]; exact hov
      refine (put_over p.g p.t m.ps.length i (lenOf m.ps) (m.ps.map isB) _ _ _ _ _ _ _ _ id cnt s x l.length c w hG (hP.there hne) hi hbi hov hl).mono ?_
      rintro e w' ⟨rfl, kG, kT, kTu⟩
      have hT : Turned (· ∈ (cqOb p m).W) w w' := kTu.mono (fun k e => mem_cqW.2 (e.imp (fun e => e) (fun e => .inl ⟨hne, e⟩)))
      refine ⟨rfl, ⟨p.g, p.t, p.d, [], p.c6, p.cl⟩, rfl, rfl, cqOb_ok ?_, hT, fun k hk => ?_, fun k hk => by cases hk⟩
      · rw [hM]
        refine ⟨?_, fun _ => ?_, fun _ h0 => ?_, fun h0 => ?_, fun _ => rfl, fun h0 => ?_, hP.ad, hP.once⟩
        · simp only [List.length_set]
          rw [hlen]
          unfold CQl.tv CQl.dv
          rw [if_neg hne, if_pos (.inr hov')]
          rw [show ((lenOf m.ps + l.length : Nat) : Int) = (lenOf m.ps : Int) + l.length by omega]
          exact kG
        · rw [List.map_set]
          exact kT
        · rw [hov'] at h0; cases h0
        · rw [hov'] at h0; cases h0
        · rw [hov'] at h0; cases h0
      · rw [hM] at hk
        rcases mem_cqW.1 hk with rfl | ⟨h0, rfl⟩ | ⟨h0, h1, rfl⟩
        · exact mem_cqW.2 (.inl rfl)
        · exact mem_cqW.2 (.inr (.inl ⟨hne, rfl⟩))
        · rw [hov'] at h1; cases h1
    · have hov' : ovB (m.ps.set i (some l)) = false := by unfold ovB; rw [hlen, decide_eq_false_iff_not]; exact hov
      have hov0 : ovB m.ps = false := by unfold ovB; rw [decide_eq_false_iff_not]; omega
      unfold CQl.dv at hG
      rw [if_neg (fun e => e.elim hne (fun e => by rw [hov0] at e; cases e))] at hG
      obtain ⟨v, hv, hvo⟩ := hP.each hov0 i m.ps[i] (List.getElem?_eq_getElem hi)
      refine (put_raw p.g p.t p.d m.ps.length i (lenOf m.ps) (m.ps.map isB) p.vs _ _ _ _ _ _ _ id cnt s x l.length c w hG (hP.there hne) (hP.data hne hov0) hi v hv hbi (by omega)).mono ?_
      rintro e w' ⟨rfl, kG, kT, kD, kTu⟩
      have hT : Turned (· ∈ (cqOb p m).W) w w' := kTu.mono (fun k e => mem_cqW.2 (e.imp (fun e => e) (fun e => e.imp (fun e => ⟨hne, e⟩) (fun e => ⟨hne, hov0, e⟩))))
      refine ⟨rfl, ⟨p.g, p.t, p.d, p.vs.set i (.slice x l.length c), p.c6, p.cl⟩, rfl, rfl, cqOb_ok ?_, hT, fun k hk => ?_, fun k hk => ?_⟩
      · rw [hM]
        refine ⟨?_, fun _ => ?_, fun _ _ => kD, fun _ => by simp [hP.len hov0], fun h0 => (by rw [hov'] at h0; cases h0), fun _ j o hj => ?_, hP.ad, hP.once⟩
        · simp only [List.length_set]
          rw [hlen]
          unfold CQl.tv CQl.dv
          rw [if_neg hne, hov', List.length_set, if_neg (fun e => e.elim hne (fun e => by cases e))]
          rw [show ((lenOf m.ps + l.length : Nat) : Int) = (lenOf m.ps : Int) + l.length by omega]
          exact kG
        · rw [List.map_set]
          exact kT
        · by_cases hij : i = j
          · subst hij
            rw [List.getElem?_set_self hi] at hj
            cases hj
            exact ⟨_, List.getElem?_set_self (by rw [hP.len hov0]; exact hi), ho.turned hT hno⟩
          · rw [List.getElem?_set_ne hij] at hj
            obtain ⟨u, hu, huo⟩ := hP.each hov0 j o hj
            refine ⟨u, by rw [List.getElem?_set_ne hij]; exact hu, huo.turned hT (fun k e hk => ?_)⟩
            exact h.apart k hk (List.mem_filterMap.2 ⟨u, List.mem_of_getElem? hu, e⟩)
      · rw [hM] at hk
        rcases mem_cqW.1 hk with rfl | ⟨h0, rfl⟩ | ⟨h0, h1, rfl⟩
        · exact mem_cqW.2 (.inl rfl)
        · exact mem_cqW.2 (.inr (.inl ⟨hne, rfl⟩))
        · exact mem_cqW.2 (.inr (.inr ⟨hne, hov0, rfl⟩))
      · obtain ⟨u, hu, e⟩ := List.mem_filterMap.1 hk
        rcases List.mem_or_eq_of_mem_set hu with hu | rfl
        · exact .inl (List.mem_filterMap.2 ⟨u, hu, e⟩)
        · exact .inr e
  · have hM : setPc m i l = m := by unfold setPc; rw [List.getElem?_eq_getElem hi, hpi]
    rw [hpi] at hbi
    refine (put_there2 p.g p.t m.ps.length i (lenOf m.ps) (m.ps.map isB) _ _ _ _ _ _ _ _ id cnt s x l.length c w hG (hP.there hne) hi hbi).mono ?_
    rintro e w' ⟨rfl, hB⟩
    rw [hM]
    exact ⟨rfl, p, rfl, rfl, h.later hB, tnd6 hB, fun k hk => hk, fun k hk => .inl hk⟩
end Go.Proofs.Ytgonglbgejaffaa

/- Add: closed, no piece, a piece of an elder image, one that does not fit. -/
namespace Go.Proofs.Ytgonglbgejaffaa
open Go.RowKit
set_option linter.unusedVariables false
set_option linter.unusedSimpArgs false
set_option maxRecDepth 4000

theorem tv_is (p : CQl) (n : Nat) : ∃ ta, p.tv n = .slice ta n n := by
  unfold CQl.tv
  split
  · rename_i h; subst h; exact ⟨_, rfl⟩
  · exact ⟨_, rfl⟩
theorem own_notW2 {w : World} {p : CQl} {m : CR} {b : Nat} {v : Value} {l : List (BitVec 8)} (h : CqP w p m) (ho : Own w b v l) : ∀ k, v.ownBlock = some k → k ∉ (cqOb p m).W := fun k e hk => by
  obtain ⟨T, xs, hb, hT⟩ := h.mem_W hk
  exact own_apart ho hb hT k e rfl
theorem added_ok2 {p : CQl} {m : CR} {w : World} (h : (cqOb p m).Ok w) : (cqOb p (addM m)).Ok (w.setCell ⟨p.g, 5, none⟩ (.int .i64 (m.ad + 1))) := by
  have hP := h.holds
  have u := turned_set w p.g 5 (.int .i64 (m.ad + 1))
  refine cqOb_ok ⟨?_, fun h0 => ?_, fun h0 h1 => ?_, hP.len, hP.over, fun h0 j o hj => ?_, by have := hP.ad; simp only [addM]; omega, hP.once⟩
  · exact hP.blk.set 5 _
  · exact (hP.there h0).turned u (blk_ne (hP.there h0) hP.blk (by decide))
  · exact (hP.data h0 h1).turned u (blk_ne (hP.data h0 h1) hP.blk (by decide))
  · obtain ⟨v, hv, ho⟩ := hP.each h0 j o hj
    exact ⟨v, hv, ho.turned u (own_apart ho hP.blk (by decide))⟩
theorem add_closed2 (a : Option Addr) (len cap : Nat) (p : CQl) (m : CR) (w : World) (h : (cqOb p m).Ok w) (hcl : p.cl = true) : Calls Try.prog 16 #[.pointer (some ⟨p.g, 0, none⟩), .slice a len cap] w fun e w' => e = .returned (.int .i64 5) ∧ w = w' := by
  have hG := h.holds.blk
  rw [hcl] at hG
  have y9 := blk_at hG 9
  simp only [List.getElem?_cons_zero, List.getElem?_cons_succ] at y9
  clear hG h
  go_enter Try.func16, Try.ntmps16
  go_wp2
  go_ret
  exact ⟨rfl, rfl⟩
set_option maxHeartbeats 4000000 in
theorem add_err2 (a : Option Addr) (cap : Nat) (l : List (BitVec 8)) (p : CQl) (m : CR) (w : World) (h : (cqOb p m).Ok w) (hcl : p.cl = false) (hle : l.length ≤ cap) (hr : Row w a l) (hn : a = none → cap = 0) (hlen : l.length ≤ 140737488351232) (hE : dcE l ≠ 0) : Calls Try.prog 16 #[.pointer (some ⟨p.g, 0, none⟩), .slice a l.length cap] w fun e w' => e = .returned (.int .i64 (dcE l)) ∧ Below w.heap.size w w' := by
  have HD : Hid _ := decode_any a cap l w hle hr hn hlen
  have hG := h.holds.blk
  rw [hcl] at hG
  have y9 := blk_at hG 9
  simp only [List.getElem?_cons_zero, List.getElem?_cons_succ] at y9
  clear hr hn h hG
  generalize dcE l = E at *
  generalize dcR l = R at *
  go_enter Try.func16, Try.ntmps16
  go_wp2_with fail
  clear y9
  refine (Calls.mono HD.out) ?_
  rintro r w1 ⟨x, c, rfl, ho, b1⟩
  have b2 : Below w1.heap.size w1 (w1.alloc (.cells #[.int .i64 R.1, .int .i64 R.2.1, .int .i64 R.2.2.1, .int .u32 R.2.2.2.1, .slice x R.2.2.2.2.length c] 56)) := (Below.refl _ _).alloc (Nat.le_refl _) _
  have F : Hid _ := below_then b1 b2
  have hE' : (E == 0) = false := by rw [beq_eq_false_iff_ne]; exact hE
  clear HD ho b1 b2
  go_wp2
  go_ret
  exact ⟨rfl, F.out⟩
set_option maxHeartbeats 4000000 in
theorem add_old2 (a : Option Addr) (cap : Nat) (l : List (BitVec 8)) (p : CQl) (m : CR) (w : World) (h : (cqOb p m).Ok w) (hcl : p.cl = false) (hle : l.length ≤ cap) (hr : Row w a l) (hn : a = none → cap = 0) (hlen : l.length ≤ 140737488351232) (hE : dcE l = 0) (id s : Int) (i cnt : Nat) (d : List (BitVec 8)) (hR : dcR l = (id, (i : Int), (cnt : Int), s, d)) (hid : id < m.id) : Calls Try.prog 16 #[.pointer (some ⟨p.g, 0, none⟩), .slice a l.length cap] w fun e w' => e = .returned (.int .i64 5) ∧ Below w.heap.size w w' := by
  have HD : Hid _ := decode_any a cap l w hle hr hn hlen
  have hG := h.holds.blk
  rw [hcl] at hG
  have y9 := blk_at hG 9
  simp only [List.getElem?_cons_zero, List.getElem?_cons_succ] at y9
  rw [hE, hR] at HD
  dsimp only at HD
  clear hr hn
  obtain ⟨g, hg⟩ : ∃ g, g = p.g := ⟨_, rfl⟩
  go_enter Try.func16, Try.ntmps16
  go_wp2_with fail
  clear y9
  refine (Calls.mono HD.out) ?_
  rintro r w1 ⟨x, c, rfl, ho, b1⟩
  have b2 : Below w1.heap.size w1 (w1.alloc (.cells #[.int .i64 id, .int .i64 i, .int .i64 cnt, .int .u32 s, .slice x d.length c] 56)) := (Below.refl _ _).alloc (Nat.le_refl _) _
  have hP := Blk.new' w1 56 [.int .i64 id, .int .i64 i, .int .i64 cnt, .int .u32 s, .slice x d.length c]
  have hPW : w1.heap.size ∉ (cqOb p m).W := fun hk => by have := h.lt _ (.inl hk); have := b1.size; omega
  have K2 : Hid _ := And.intro (h.later (below_then b1 b2)) (And.intro (below_then b1 b2) (And.intro ((ho.later b2) : Own _ w.heap.size _ d) (And.intro hP (And.intro h hPW))))
  clear HD ho b1 b2 hP h hG hPW
  go_upto_region 8 with fail
  obtain ⟨P, hPe⟩ : ∃ P, P = w1.heap.size := ⟨_, rfl⟩
  rw [← hPe] at K2 ⊢
  generalize (w1.alloc (.cells #[.int .i64 id, .int .i64 i, .int .i64 cnt, .int .u32 s, .slice x d.length c] 56)) = w2 at *
  clear hPe
  have hGc := K2.out.1.holds.blk
  rw [hcl] at hGc
  obtain ⟨ta, hta⟩ := tv_is p m.ps.length
  rw [hta, ← hg] at hGc
  have H2 : Hid _ := And.intro (And.intro hGc K2.out.2.2.2.1) K2.out.2.1
  rw [← hg]
  clear K2 hg hGc hta
  generalize p.dv m.ps = DV at *
  generalize p.c6 = K6 at *
  generalize lenOf m.ps = len at *
  generalize m.ad = ad at *
  generalize m.ps.length = N at *
  generalize m.id = mid at *
  generalize m.s = ms at *
  refine wp_region_held_drew (S := fun W => Blk W g 74 [.int .i64 mid, .int .u32 ms, .slice ta N N, DV, .int .i64 len, .int .i64 ad, K6, .int .i32 0, .int .u32 0, .bool false] ∧ Blk W P 56 [.int .i64 id, .int .i64 i, .int .i64 cnt, .int .u32 s, .slice x d.length c]) (by kernel_rfl) (⟨H2.out.1.1.laterB (Below.refl _ _).drew, H2.out.1.2.laterB (Below.refl _ _).drew⟩) (fun hS => ?_)
  refine any_take (i := 0) (v := ?_) rfl (by kernel_rfl) (by kernel_rfl) (by kernel_rfl) (by exact fun _ _ _ h => h) (by rfl) ?_ hS ?_
  rotate_left
  · ((intro w hSw; have y0 := blk_at hSw.1 0; have y1 := blk_at hSw.1 1; have y2 := blk_at hSw.1 2; have z0 := blk_at hSw.2 0; have z2 := blk_at hSw.2 2; have z3 := blk_at hSw.2 3; simp only [List.getElem?_cons_zero, List.getElem?_cons_succ] at y0 y1 y2 z0 z2 z3; clear hSw; go_simp) <;> with_reducible rfl)
  (try simp only [Act.put, List.setIfInBounds_toArray, List.set_cons_zero, List.set_cons_succ])
  refine any_take (i := 1) (v := ?_) rfl (by kernel_rfl) (by kernel_rfl) (by kernel_rfl) (by exact fun _ _ _ h => h) (by rfl) ?_ hS ?_
  rotate_left
  · ((intro w hSw; have y0 := blk_at hSw.1 0; have y1 := blk_at hSw.1 1; have y2 := blk_at hSw.1 2; have z0 := blk_at hSw.2 0; have z2 := blk_at hSw.2 2; have z3 := blk_at hSw.2 3; simp only [List.getElem?_cons_zero, List.getElem?_cons_succ] at y0 y1 y2 z0 z2 z3; clear hSw; go_simp) <;> with_reducible rfl)
  (try simp only [Act.put, List.setIfInBounds_toArray, List.set_cons_zero, List.set_cons_succ])
  refine any_take (i := 2) (v := ?_) rfl (by kernel_rfl) (by kernel_rfl) (by kernel_rfl) (by exact fun _ _ _ h => h) (by rfl) ?_ hS ?_
  rotate_left
  · ((intro w hSw; have y0 := blk_at hSw.1 0; have y1 := blk_at hSw.1 1; have y2 := blk_at hSw.1 2; have z0 := blk_at hSw.2 0; have z2 := blk_at hSw.2 2; have z3 := blk_at hSw.2 3; simp only [List.getElem?_cons_zero, List.getElem?_cons_succ] at y0 y1 y2 z0 z2 z3; clear hSw; go_simp) <;> with_reducible rfl)
  (try simp only [Act.put, List.setIfInBounds_toArray, List.set_cons_zero, List.set_cons_succ])
  refine any_take (i := 3) (v := ?_) rfl (by kernel_rfl) (by kernel_rfl) (by kernel_rfl) (by exact fun _ _ _ h => h) (by rfl) ?_ hS ?_
  rotate_left
  · ((intro w hSw; have y0 := blk_at hSw.1 0; have y1 := blk_at hSw.1 1; have y2 := blk_at hSw.1 2; have z0 := blk_at hSw.2 0; have z2 := blk_at hSw.2 2; have z3 := blk_at hSw.2 3; simp only [List.getElem?_cons_zero, List.getElem?_cons_succ] at y0 y1 y2 z0 z2 z3; clear hSw; go_simp) <;> with_reducible rfl)
  (try simp only [Act.put, List.setIfInBounds_toArray, List.set_cons_zero, List.set_cons_succ])
  refine any_take (i := 4) (v := ?_) rfl (by kernel_rfl) (by kernel_rfl) (by kernel_rfl) (by exact fun _ _ _ h => h) (by rfl) ?_ hS ?_
  rotate_left
  · ((intro w hSw; have y0 := blk_at hSw.1 0; have y1 := blk_at hSw.1 1; have y2 := blk_at hSw.1 2; have z0 := blk_at hSw.2 0; have z2 := blk_at hSw.2 2; have z3 := blk_at hSw.2 3; simp only [List.getElem?_cons_zero, List.getElem?_cons_succ] at y0 y1 y2 z0 z2 z3; clear hSw; go_simp) <;> with_reducible rfl)
  (try simp only [Act.put, List.setIfInBounds_toArray, List.set_cons_zero, List.set_cons_succ])
  refine any_take (i := 5) (v := ?_) rfl (by kernel_rfl) (by kernel_rfl) (by kernel_rfl) (by exact fun _ _ _ h => h) (by rfl) ?_ hS ?_
  rotate_left
  · ((intro w hSw; have y0 := blk_at hSw.1 0; have y1 := blk_at hSw.1 1; have y2 := blk_at hSw.1 2; have z0 := blk_at hSw.2 0; have z2 := blk_at hSw.2 2; have z3 := blk_at hSw.2 3; simp only [List.getElem?_cons_zero, List.getElem?_cons_succ] at y0 y1 y2 z0 z2 z3; clear hSw; go_simp) <;> with_reducible rfl)
  (try simp only [Act.put, List.setIfInBounds_toArray, List.set_cons_zero, List.set_cons_succ])
  refine any_take (i := 6) (v := ?_) rfl (by kernel_rfl) (by kernel_rfl) (by kernel_rfl) (by exact fun _ _ _ h => h) (by rfl) ?_ hS ?_
  rotate_left
  · ((intro w hSw; have y0 := blk_at hSw.1 0; have y1 := blk_at hSw.1 1; have y2 := blk_at hSw.1 2; have z0 := blk_at hSw.2 0; have z2 := blk_at hSw.2 2; have z3 := blk_at hSw.2 3; simp only [List.getElem?_cons_zero, List.getElem?_cons_succ] at y0 y1 y2 z0 z2 z3; clear hSw; go_simp) <;> with_reducible rfl)
  (try simp only [Act.put, List.setIfInBounds_toArray, List.set_cons_zero, List.set_cons_succ])
  refine wpAnyH_done (by kernel_rfl) ?_ _
  clear hS
  have H3 : Hid _ := And.intro (And.intro (H2.out.1.1.laterB (Below.refl _ _).drew) (H2.out.1.2.laterB (Below.refl _ _).drew)) (below_then H2.out.2 (Below.refl _ _).drew)
  generalize w2.drew = w3 at *
  clear H2
  go_upto_region 10 with fail
  refine wp_region_held_drew (S := fun W => Blk W g 74 [.int .i64 mid, .int .u32 ms, .slice ta N N, DV, .int .i64 len, .int .i64 ad, K6, .int .i32 0, .int .u32 0, .bool false] ∧ Blk W P 56 [.int .i64 id, .int .i64 i, .int .i64 cnt, .int .u32 s, .slice x d.length c]) (by kernel_rfl) (⟨H3.out.1.1.laterB (Below.refl _ _).drew, H3.out.1.2.laterB (Below.refl _ _).drew⟩) (fun hS => ?_)
  refine any_take (i := 0) (v := ?_) rfl (by kernel_rfl) (by kernel_rfl) (by kernel_rfl) (by exact fun _ _ _ h => h) (by rfl) ?_ hS ?_
  rotate_left
  · ((intro w hSw; have y0 := blk_at hSw.1 0; have y1 := blk_at hSw.1 1; have y2 := blk_at hSw.1 2; have z0 := blk_at hSw.2 0; have z2 := blk_at hSw.2 2; have z3 := blk_at hSw.2 3; simp only [List.getElem?_cons_zero, List.getElem?_cons_succ] at y0 y1 y2 z0 z2 z3; clear hSw; go_simp) <;> with_reducible rfl)
  (try simp only [Act.put, List.setIfInBounds_toArray, List.set_cons_zero, List.set_cons_succ])
  refine any_take (i := 1) (v := ?_) rfl (by kernel_rfl) (by kernel_rfl) (by kernel_rfl) (by exact fun _ _ _ h => h) (by rfl) ?_ hS ?_
  rotate_left
  · ((intro w hSw; have y0 := blk_at hSw.1 0; have y1 := blk_at hSw.1 1; have y2 := blk_at hSw.1 2; have z0 := blk_at hSw.2 0; have z2 := blk_at hSw.2 2; have z3 := blk_at hSw.2 3; simp only [List.getElem?_cons_zero, List.getElem?_cons_succ] at y0 y1 y2 z0 z2 z3; clear hSw; go_simp) <;> with_reducible rfl)
  (try simp only [Act.put, List.setIfInBounds_toArray, List.set_cons_zero, List.set_cons_succ])
  refine any_take (i := 2) (v := ?_) rfl (by kernel_rfl) (by kernel_rfl) (by kernel_rfl) (by exact fun _ _ _ h => h) (by rfl) ?_ hS ?_
  rotate_left
  · ((intro w hSw; have y0 := blk_at hSw.1 0; have y1 := blk_at hSw.1 1; have y2 := blk_at hSw.1 2; have z0 := blk_at hSw.2 0; have z2 := blk_at hSw.2 2; have z3 := blk_at hSw.2 3; simp only [List.getElem?_cons_zero, List.getElem?_cons_succ] at y0 y1 y2 z0 z2 z3; clear hSw; go_simp) <;> with_reducible rfl)
  (try simp only [Act.put, List.setIfInBounds_toArray, List.set_cons_zero, List.set_cons_succ])
  refine any_take (i := 3) (v := ?_) rfl (by kernel_rfl) (by kernel_rfl) (by kernel_rfl) (by exact fun _ _ _ h => h) (by rfl) ?_ hS ?_
  rotate_left
  · ((intro w hSw; have y0 := blk_at hSw.1 0; have y1 := blk_at hSw.1 1; have y2 := blk_at hSw.1 2; have z0 := blk_at hSw.2 0; have z2 := blk_at hSw.2 2; have z3 := blk_at hSw.2 3; simp only [List.getElem?_cons_zero, List.getElem?_cons_succ] at y0 y1 y2 z0 z2 z3; clear hSw; go_simp) <;> with_reducible rfl)
  (try simp only [Act.put, List.setIfInBounds_toArray, List.set_cons_zero, List.set_cons_succ])
  refine any_take (i := 4) (v := ?_) rfl (by kernel_rfl) (by kernel_rfl) (by kernel_rfl) (by exact fun _ _ _ h => h) (by rfl) ?_ hS ?_
  rotate_left
  · ((intro w hSw; have y0 := blk_at hSw.1 0; have y1 := blk_at hSw.1 1; have y2 := blk_at hSw.1 2; have z0 := blk_at hSw.2 0; have z2 := blk_at hSw.2 2; have z3 := blk_at hSw.2 3; simp only [List.getElem?_cons_zero, List.getElem?_cons_succ] at y0 y1 y2 z0 z2 z3; clear hSw; go_simp) <;> with_reducible rfl)
  (try simp only [Act.put, List.setIfInBounds_toArray, List.set_cons_zero, List.set_cons_succ])
  refine any_take (i := 5) (v := ?_) rfl (by kernel_rfl) (by kernel_rfl) (by kernel_rfl) (by exact fun _ _ _ h => h) (by rfl) ?_ hS ?_
  rotate_left
  · ((intro w hSw; have y0 := blk_at hSw.1 0; have y1 := blk_at hSw.1 1; have y2 := blk_at hSw.1 2; have z0 := blk_at hSw.2 0; have z2 := blk_at hSw.2 2; have z3 := blk_at hSw.2 3; simp only [List.getElem?_cons_zero, List.getElem?_cons_succ] at y0 y1 y2 z0 z2 z3; clear hSw; go_simp) <;> with_reducible rfl)
  (try simp only [Act.put, List.setIfInBounds_toArray, List.set_cons_zero, List.set_cons_succ])
  refine any_take (i := 6) (v := ?_) rfl (by kernel_rfl) (by kernel_rfl) (by kernel_rfl) (by exact fun _ _ _ h => h) (by rfl) ?_ hS ?_
  rotate_left
  · ((intro w hSw; have y0 := blk_at hSw.1 0; have y1 := blk_at hSw.1 1; have y2 := blk_at hSw.1 2; have z0 := blk_at hSw.2 0; have z2 := blk_at hSw.2 2; have z3 := blk_at hSw.2 3; simp only [List.getElem?_cons_zero, List.getElem?_cons_succ] at y0 y1 y2 z0 z2 z3; clear hSw; go_simp) <;> with_reducible rfl)
  (try simp only [Act.put, List.setIfInBounds_toArray, List.set_cons_zero, List.set_cons_succ])
  refine wpAnyH_done (by kernel_rfl) ?_ _
  clear hS
  have F : Hid _ := below_then H3.out.2 (Below.refl _ _).drew
  clear H3
  go_wp2
  go_ret
  exact ⟨rfl, F.out⟩
set_option maxHeartbeats 4000000 in
theorem add_form2 (a : Option Addr) (cap : Nat) (l : List (BitVec 8)) (p : CQl) (m : CR) (w : World) (h : (cqOb p m).Ok w) (hcl : p.cl = false) (hle : l.length ≤ cap) (hr : Row w a l) (hn : a = none → cap = 0) (hlen : l.length ≤ 140737488351232) (hE : dcE l = 0) (id s : Int) (i cnt : Nat) (d : List (BitVec 8)) (hR : dcR l = (id, (i : Int), (cnt : Int), s, d)) (hid : m.id = id) (hne : ¬ (m.ps.length = cnt ∧ m.s = s)) : Calls Try.prog 16 #[.pointer (some ⟨p.g, 0, none⟩), .slice a l.length cap] w fun e w' => e = .returned (.int .i64 11) ∧ Below w.heap.size w w' := by
  have HD : Hid _ := decode_any a cap l w hle hr hn hlen
  have hG := h.holds.blk
  rw [hcl] at hG
  have y9 := blk_at hG 9
  simp only [List.getElem?_cons_zero, List.getElem?_cons_succ] at y9
  rw [hE, hR] at HD
  dsimp only at HD
  clear hr hn
  obtain ⟨g, hg⟩ : ∃ g, g = p.g := ⟨_, rfl⟩
  go_enter Try.func16, Try.ntmps16
  go_wp2_with fail
  clear y9
  refine (Calls.mono HD.out) ?_
  rintro r w1 ⟨x, c, rfl, ho, b1⟩
  have b2 : Below w1.heap.size w1 (w1.alloc (.cells #[.int .i64 id, .int .i64 i, .int .i64 cnt, .int .u32 s, .slice x d.length c] 56)) := (Below.refl _ _).alloc (Nat.le_refl _) _
  have hP := Blk.new' w1 56 [.int .i64 id, .int .i64 i, .int .i64 cnt, .int .u32 s, .slice x d.length c]
  have hPW : w1.heap.size ∉ (cqOb p m).W := fun hk => by have := h.lt _ (.inl hk); have := b1.size; omega
  have K2 : Hid _ := And.intro (h.later (below_then b1 b2)) (And.intro (below_then b1 b2) (And.intro ((ho.later b2) : Own _ w.heap.size _ d) (And.intro hP (And.intro h hPW))))
  clear HD ho b1 b2 hP h hG hPW
  go_upto_region 8 with fail
  obtain ⟨P, hPe⟩ : ∃ P, P = w1.heap.size := ⟨_, rfl⟩
  rw [← hPe] at K2 ⊢
  generalize (w1.alloc (.cells #[.int .i64 id, .int .i64 i, .int .i64 cnt, .int .u32 s, .slice x d.length c] 56)) = w2 at *
  clear hPe
  have hGc := K2.out.1.holds.blk
  rw [hcl] at hGc
  obtain ⟨ta, hta⟩ := tv_is p m.ps.length
  rw [hta, ← hg] at hGc
  have H2 : Hid _ := And.intro (And.intro hGc K2.out.2.2.2.1) K2.out.2.1
  rw [← hg]
  clear K2 hg hGc hta
  generalize p.dv m.ps = DV at *
  generalize p.c6 = K6 at *
  generalize lenOf m.ps = len at *
  generalize m.ad = ad at *
  rw [hid] at H2
  clear hid
  by_cases hN : m.ps.length = cnt
  · have hs : ¬ s = m.s := fun e => hne ⟨hN, e.symm⟩
    rw [hN] at H2
    clear hne hN
    generalize m.s = ms at *
    have hs2 : (s == ms) = false := by rw [beq_eq_false_iff_ne]; exact hs
    refine wp_region_held_drew (S := fun W => Blk W g 74 [.int .i64 id, .int .u32 ms, .slice ta cnt cnt, DV, .int .i64 len, .int .i64 ad, K6, .int .i32 0, .int .u32 0, .bool false] ∧ Blk W P 56 [.int .i64 id, .int .i64 i, .int .i64 cnt, .int .u32 s, .slice x d.length c]) (by kernel_rfl) (⟨H2.out.1.1.laterB (Below.refl _ _).drew, H2.out.1.2.laterB (Below.refl _ _).drew⟩) (fun hS => ?_)
    refine any_take (i := 0) (v := ?_) rfl (by kernel_rfl) (by kernel_rfl) (by kernel_rfl) (by exact fun _ _ _ h => h) (by rfl) ?_ hS ?_
    rotate_left
    · ((intro w hSw; have y0 := blk_at hSw.1 0; have y1 := blk_at hSw.1 1; have y2 := blk_at hSw.1 2; have z0 := blk_at hSw.2 0; have z2 := blk_at hSw.2 2; have z3 := blk_at hSw.2 3; simp only [List.getElem?_cons_zero, List.getElem?_cons_succ] at y0 y1 y2 z0 z2 z3; clear hSw; go_simp) <;> with_reducible rfl)
    (try simp only [Act.put, List.setIfInBounds_toArray, List.set_cons_zero, List.set_cons_succ])
    refine any_take (i := 1) (v := ?_) rfl (by kernel_rfl) (by kernel_rfl) (by kernel_rfl) (by exact fun _ _ _ h => h) (by rfl) ?_ hS ?_
    rotate_left
    · ((intro w hSw; have y0 := blk_at hSw.1 0; have y1 := blk_at hSw.1 1; have y2 := blk_at hSw.1 2; have z0 := blk_at hSw.2 0; have z2 := blk_at hSw.2 2; have z3 := blk_at hSw.2 3; simp only [List.getElem?_cons_zero, List.getElem?_cons_succ] at y0 y1 y2 z0 z2 z3; clear hSw; go_simp) <;> with_reducible rfl)
    (try simp only [Act.put, List.setIfInBounds_toArray, List.set_cons_zero, List.set_cons_succ])
    refine any_take (i := 2) (v := ?_) rfl (by kernel_rfl) (by kernel_rfl) (by kernel_rfl) (by exact fun _ _ _ h => h) (by rfl) ?_ hS ?_
    rotate_left
    · ((intro w hSw; have y0 := blk_at hSw.1 0; have y1 := blk_at hSw.1 1; have y2 := blk_at hSw.1 2; have z0 := blk_at hSw.2 0; have z2 := blk_at hSw.2 2; have z3 := blk_at hSw.2 3; simp only [List.getElem?_cons_zero, List.getElem?_cons_succ] at y0 y1 y2 z0 z2 z3; clear hSw; go_simp) <;> with_reducible rfl)
    (try simp only [Act.put, List.setIfInBounds_toArray, List.set_cons_zero, List.set_cons_succ])
    refine any_take (i := 3) (v := ?_) rfl (by kernel_rfl) (by kernel_rfl) (by kernel_rfl) (by exact fun _ _ _ h => h) (by rfl) ?_ hS ?_
    rotate_left
    · ((intro w hSw; have y0 := blk_at hSw.1 0; have y1 := blk_at hSw.1 1; have y2 := blk_at hSw.1 2; have z0 := blk_at hSw.2 0; have z2 := blk_at hSw.2 2; have z3 := blk_at hSw.2 3; simp only [List.getElem?_cons_zero, List.getElem?_cons_succ] at y0 y1 y2 z0 z2 z3; clear hSw; go_simp) <;> with_reducible rfl)
    (try simp only [Act.put, List.setIfInBounds_toArray, List.set_cons_zero, List.set_cons_succ])
    refine any_take (i := 4) (v := ?_) rfl (by kernel_rfl) (by kernel_rfl) (by kernel_rfl) (by exact fun _ _ _ h => h) (by rfl) ?_ hS ?_
    rotate_left
    · ((intro w hSw; have y0 := blk_at hSw.1 0; have y1 := blk_at hSw.1 1; have y2 := blk_at hSw.1 2; have z0 := blk_at hSw.2 0; have z2 := blk_at hSw.2 2; have z3 := blk_at hSw.2 3; simp only [List.getElem?_cons_zero, List.getElem?_cons_succ] at y0 y1 y2 z0 z2 z3; clear hSw; go_simp) <;> with_reducible rfl)
    (try simp only [Act.put, List.setIfInBounds_toArray, List.set_cons_zero, List.set_cons_succ])
    refine any_take (i := 5) (v := ?_) rfl (by kernel_rfl) (by kernel_rfl) (by kernel_rfl) (by exact fun _ _ _ h => h) (by rfl) ?_ hS ?_
    rotate_left
    · ((intro w hSw; have y0 := blk_at hSw.1 0; have y1 := blk_at hSw.1 1; have y2 := blk_at hSw.1 2; have z0 := blk_at hSw.2 0; have z2 := blk_at hSw.2 2; have z3 := blk_at hSw.2 3; simp only [List.getElem?_cons_zero, List.getElem?_cons_succ] at y0 y1 y2 z0 z2 z3; clear hSw; go_simp) <;> with_reducible rfl)
    (try simp only [Act.put, List.setIfInBounds_toArray, List.set_cons_zero, List.set_cons_succ])
    refine any_take (i := 6) (v := ?_) rfl (by kernel_rfl) (by kernel_rfl) (by kernel_rfl) (by exact fun _ _ _ h => h) (by rfl) ?_ hS ?_
    rotate_left
    · ((intro w hSw; have y0 := blk_at hSw.1 0; have y1 := blk_at hSw.1 1; have y2 := blk_at hSw.1 2; have z0 := blk_at hSw.2 0; have z2 := blk_at hSw.2 2; have z3 := blk_at hSw.2 3; simp only [List.getElem?_cons_zero, List.getElem?_cons_succ] at y0 y1 y2 z0 z2 z3; clear hSw; go_simp) <;> with_reducible rfl)
    (try simp only [Act.put, List.setIfInBounds_toArray, List.set_cons_zero, List.set_cons_succ])
    refine wpAnyH_done (by kernel_rfl) ?_ _
    clear hS
    have H3 : Hid _ := And.intro (And.intro (H2.out.1.1.laterB (Below.refl _ _).drew) (H2.out.1.2.laterB (Below.refl _ _).drew)) (below_then H2.out.2 (Below.refl _ _).drew)
    generalize w2.drew = w3 at *
    clear H2
    go_upto_region 10 with fail
    refine wp_region_held_drew (S := fun W => Blk W g 74 [.int .i64 id, .int .u32 ms, .slice ta cnt cnt, DV, .int .i64 len, .int .i64 ad, K6, .int .i32 0, .int .u32 0, .bool false] ∧ Blk W P 56 [.int .i64 id, .int .i64 i, .int .i64 cnt, .int .u32 s, .slice x d.length c]) (by kernel_rfl) (⟨H3.out.1.1.laterB (Below.refl _ _).drew, H3.out.1.2.laterB (Below.refl _ _).drew⟩) (fun hS => ?_)
    refine any_take (i := 0) (v := ?_) rfl (by kernel_rfl) (by kernel_rfl) (by kernel_rfl) (by exact fun _ _ _ h => h) (by rfl) ?_ hS ?_
    rotate_left
    · ((intro w hSw; have y0 := blk_at hSw.1 0; have y1 := blk_at hSw.1 1; have y2 := blk_at hSw.1 2; have z0 := blk_at hSw.2 0; have z2 := blk_at hSw.2 2; have z3 := blk_at hSw.2 3; simp only [List.getElem?_cons_zero, List.getElem?_cons_succ] at y0 y1 y2 z0 z2 z3; clear hSw; go_simp) <;> with_reducible rfl)
    (try simp only [Act.put, List.setIfInBounds_toArray, List.set_cons_zero, List.set_cons_succ])
    refine any_take (i := 1) (v := ?_) rfl (by kernel_rfl) (by kernel_rfl) (by kernel_rfl) (by exact fun _ _ _ h => h) (by rfl) ?_ hS ?_
    rotate_left
    · ((intro w hSw; have y0 := blk_at hSw.1 0; have y1 := blk_at hSw.1 1; have y2 := blk_at hSw.1 2; have z0 := blk_at hSw.2 0; have z2 := blk_at hSw.2 2; have z3 := blk_at hSw.2 3; simp only [List.getElem?_cons_zero, List.getElem?_cons_succ] at y0 y1 y2 z0 z2 z3; clear hSw; go_simp) <;> with_reducible rfl)
    (try simp only [Act.put, List.setIfInBounds_toArray, List.set_cons_zero, List.set_cons_succ])
    refine any_take (i := 2) (v := ?_) rfl (by kernel_rfl) (by kernel_rfl) (by kernel_rfl) (by exact fun _ _ _ h => h) (by rfl) ?_ hS ?_
    rotate_left
    · ((intro w hSw; have y0 := blk_at hSw.1 0; have y1 := blk_at hSw.1 1; have y2 := blk_at hSw.1 2; have z0 := blk_at hSw.2 0; have z2 := blk_at hSw.2 2; have z3 := blk_at hSw.2 3; simp only [List.getElem?_cons_zero, List.getElem?_cons_succ] at y0 y1 y2 z0 z2 z3; clear hSw; go_simp) <;> with_reducible rfl)
    (try simp only [Act.put, List.setIfInBounds_toArray, List.set_cons_zero, List.set_cons_succ])
    refine any_take (i := 3) (v := ?_) rfl (by kernel_rfl) (by kernel_rfl) (by kernel_rfl) (by exact fun _ _ _ h => h) (by rfl) ?_ hS ?_
    rotate_left
    · ((intro w hSw; have y0 := blk_at hSw.1 0; have y1 := blk_at hSw.1 1; have y2 := blk_at hSw.1 2; have z0 := blk_at hSw.2 0; have z2 := blk_at hSw.2 2; have z3 := blk_at hSw.2 3; simp only [List.getElem?_cons_zero, List.getElem?_cons_succ] at y0 y1 y2 z0 z2 z3; clear hSw; go_simp) <;> with_reducible rfl)
    (try simp only [Act.put, List.setIfInBounds_toArray, List.set_cons_zero, List.set_cons_succ])
    refine any_take (i := 4) (v := ?_) rfl (by kernel_rfl) (by kernel_rfl) (by kernel_rfl) (by exact fun _ _ _ h => h) (by rfl) ?_ hS ?_
    rotate_left
    · ((intro w hSw; have y0 := blk_at hSw.1 0; have y1 := blk_at hSw.1 1; have y2 := blk_at hSw.1 2; have z0 := blk_at hSw.2 0; have z2 := blk_at hSw.2 2; have z3 := blk_at hSw.2 3; simp only [List.getElem?_cons_zero, List.getElem?_cons_succ] at y0 y1 y2 z0 z2 z3; clear hSw; go_simp) <;> with_reducible rfl)
    (try simp only [Act.put, List.setIfInBounds_toArray, List.set_cons_zero, List.set_cons_succ])
    refine any_take (i := 5) (v := ?_) rfl (by kernel_rfl) (by kernel_rfl) (by kernel_rfl) (by exact fun _ _ _ h => h) (by rfl) ?_ hS ?_
    rotate_left
    · ((intro w hSw; have y0 := blk_at hSw.1 0; have y1 := blk_at hSw.1 1; have y2 := blk_at hSw.1 2; have z0 := blk_at hSw.2 0; have z2 := blk_at hSw.2 2; have z3 := blk_at hSw.2 3; simp only [List.getElem?_cons_zero, List.getElem?_cons_succ] at y0 y1 y2 z0 z2 z3; clear hSw; go_simp) <;> with_reducible rfl)
    (try simp only [Act.put, List.setIfInBounds_toArray, List.set_cons_zero, List.set_cons_succ])
    refine any_take (i := 6) (v := ?_) rfl (by kernel_rfl) (by kernel_rfl) (by kernel_rfl) (by exact fun _ _ _ h => h) (by rfl) ?_ hS ?_
    rotate_left
    · ((intro w hSw; have y0 := blk_at hSw.1 0; have y1 := blk_at hSw.1 1; have y2 := blk_at hSw.1 2; have z0 := blk_at hSw.2 0; have z2 := blk_at hSw.2 2; have z3 := blk_at hSw.2 3; simp only [List.getElem?_cons_zero, List.getElem?_cons_succ] at y0 y1 y2 z0 z2 z3; clear hSw; go_simp) <;> with_reducible rfl)
    (try simp only [Act.put, List.setIfInBounds_toArray, List.set_cons_zero, List.set_cons_succ])
    refine wpAnyH_done (by kernel_rfl) ?_ _
    clear hS
    have H4 : Hid _ := And.intro (And.intro (H3.out.1.1.laterB (Below.refl _ _).drew) (H3.out.1.2.laterB (Below.refl _ _).drew)) (below_then H3.out.2 (Below.refl _ _).drew)
    generalize w3.drew = w4 at *
    clear H3
    go_upto_region 12 with fail
    refine wp_region_held_drew (S := fun W => Blk W g 74 [.int .i64 id, .int .u32 ms, .slice ta cnt cnt, DV, .int .i64 len, .int .i64 ad, K6, .int .i32 0, .int .u32 0, .bool false] ∧ Blk W P 56 [.int .i64 id, .int .i64 i, .int .i64 cnt, .int .u32 s, .slice x d.length c]) (by kernel_rfl) (⟨H4.out.1.1.laterB (Below.refl _ _).drew, H4.out.1.2.laterB (Below.refl _ _).drew⟩) (fun hS => ?_)
    refine any_take (i := 0) (v := ?_) rfl (by kernel_rfl) (by kernel_rfl) (by kernel_rfl) (by exact fun _ _ _ h => h) (by rfl) ?_ hS ?_
    rotate_left
    · ((intro w hSw; have y0 := blk_at hSw.1 0; have y1 := blk_at hSw.1 1; have y2 := blk_at hSw.1 2; have z0 := blk_at hSw.2 0; have z2 := blk_at hSw.2 2; have z3 := blk_at hSw.2 3; simp only [List.getElem?_cons_zero, List.getElem?_cons_succ] at y0 y1 y2 z0 z2 z3; clear hSw; go_simp) <;> with_reducible rfl)
    (try simp only [Act.put, List.setIfInBounds_toArray, List.set_cons_zero, List.set_cons_succ])
    refine any_take (i := 1) (v := ?_) rfl (by kernel_rfl) (by kernel_rfl) (by kernel_rfl) (by exact fun _ _ _ h => h) (by rfl) ?_ hS ?_
    rotate_left
    · ((intro w hSw; have y0 := blk_at hSw.1 0; have y1 := blk_at hSw.1 1; have y2 := blk_at hSw.1 2; have z0 := blk_at hSw.2 0; have z2 := blk_at hSw.2 2; have z3 := blk_at hSw.2 3; simp only [List.getElem?_cons_zero, List.getElem?_cons_succ] at y0 y1 y2 z0 z2 z3; clear hSw; go_simp) <;> with_reducible rfl)
    (try simp only [Act.put, List.setIfInBounds_toArray, List.set_cons_zero, List.set_cons_succ])
    refine any_take (i := 2) (v := ?_) rfl (by kernel_rfl) (by kernel_rfl) (by kernel_rfl) (by exact fun _ _ _ h => h) (by rfl) ?_ hS ?_
    rotate_left
    · ((intro w hSw; have y0 := blk_at hSw.1 0; have y1 := blk_at hSw.1 1; have y2 := blk_at hSw.1 2; have z0 := blk_at hSw.2 0; have z2 := blk_at hSw.2 2; have z3 := blk_at hSw.2 3; simp only [List.getElem?_cons_zero, List.getElem?_cons_succ] at y0 y1 y2 z0 z2 z3; clear hSw; go_simp) <;> with_reducible rfl)
    (try simp only [Act.put, List.setIfInBounds_toArray, List.set_cons_zero, List.set_cons_succ])
    refine any_take (i := 3) (v := ?_) rfl (by kernel_rfl) (by kernel_rfl) (by kernel_rfl) (by exact fun _ _ _ h => h) (by rfl) ?_ hS ?_
    rotate_left
    · ((intro w hSw; have y0 := blk_at hSw.1 0; have y1 := blk_at hSw.1 1; have y2 := blk_at hSw.1 2; have z0 := blk_at hSw.2 0; have z2 := blk_at hSw.2 2; have z3 := blk_at hSw.2 3; simp only [List.getElem?_cons_zero, List.getElem?_cons_succ] at y0 y1 y2 z0 z2 z3; clear hSw; go_simp) <;> with_reducible rfl)
    (try simp only [Act.put, List.setIfInBounds_toArray, List.set_cons_zero, List.set_cons_succ])
    refine any_take (i := 4) (v := ?_) rfl (by kernel_rfl) (by kernel_rfl) (by kernel_rfl) (by exact fun _ _ _ h => h) (by rfl) ?_ hS ?_
    rotate_left
    · ((intro w hSw; have y0 := blk_at hSw.1 0; have y1 := blk_at hSw.1 1; have y2 := blk_at hSw.1 2; have z0 := blk_at hSw.2 0; have z2 := blk_at hSw.2 2; have z3 := blk_at hSw.2 3; simp only [List.getElem?_cons_zero, List.getElem?_cons_succ] at y0 y1 y2 z0 z2 z3; clear hSw; go_simp) <;> with_reducible rfl)
    (try simp only [Act.put, List.setIfInBounds_toArray, List.set_cons_zero, List.set_cons_succ])
    refine any_take (i := 5) (v := ?_) rfl (by kernel_rfl) (by kernel_rfl) (by kernel_rfl) (by exact fun _ _ _ h => h) (by rfl) ?_ hS ?_
    rotate_left
    · ((intro w hSw; have y0 := blk_at hSw.1 0; have y1 := blk_at hSw.1 1; have y2 := blk_at hSw.1 2; have z0 := blk_at hSw.2 0; have z2 := blk_at hSw.2 2; have z3 := blk_at hSw.2 3; simp only [List.getElem?_cons_zero, List.getElem?_cons_succ] at y0 y1 y2 z0 z2 z3; clear hSw; go_simp) <;> with_reducible rfl)
    (try simp only [Act.put, List.setIfInBounds_toArray, List.set_cons_zero, List.set_cons_succ])
    refine any_take (i := 6) (v := ?_) rfl (by kernel_rfl) (by kernel_rfl) (by kernel_rfl) (by exact fun _ _ _ h => h) (by rfl) ?_ hS ?_
    rotate_left
    · ((intro w hSw; have y0 := blk_at hSw.1 0; have y1 := blk_at hSw.1 1; have y2 := blk_at hSw.1 2; have z0 := blk_at hSw.2 0; have z2 := blk_at hSw.2 2; have z3 := blk_at hSw.2 3; simp only [List.getElem?_cons_zero, List.getElem?_cons_succ] at y0 y1 y2 z0 z2 z3; clear hSw; go_simp) <;> with_reducible rfl)
    (try simp only [Act.put, List.setIfInBounds_toArray, List.set_cons_zero, List.set_cons_succ])
    refine any_take (i := 7) (v := ?_) rfl (by kernel_rfl) (by kernel_rfl) (by kernel_rfl) (by exact fun _ _ _ h => h) (by rfl) ?_ hS ?_
    rotate_left
    · ((intro w hSw; have y0 := blk_at hSw.1 0; have y1 := blk_at hSw.1 1; have y2 := blk_at hSw.1 2; have z0 := blk_at hSw.2 0; have z2 := blk_at hSw.2 2; have z3 := blk_at hSw.2 3; simp only [List.getElem?_cons_zero, List.getElem?_cons_succ] at y0 y1 y2 z0 z2 z3; clear hSw; go_simp) <;> with_reducible rfl)
    (try simp only [Act.put, List.setIfInBounds_toArray, List.set_cons_zero, List.set_cons_succ])
    refine any_take (i := 8) (v := ?_) rfl (by kernel_rfl) (by kernel_rfl) (by kernel_rfl) (by exact fun _ _ _ h => h) (by rfl) ?_ hS ?_
    rotate_left
    · ((intro w hSw; have y0 := blk_at hSw.1 0; have y1 := blk_at hSw.1 1; have y2 := blk_at hSw.1 2; have z0 := blk_at hSw.2 0; have z2 := blk_at hSw.2 2; have z3 := blk_at hSw.2 3; simp only [List.getElem?_cons_zero, List.getElem?_cons_succ] at y0 y1 y2 z0 z2 z3; clear hSw; go_simp) <;> with_reducible rfl)
    (try simp only [Act.put, List.setIfInBounds_toArray, List.set_cons_zero, List.set_cons_succ])
    refine any_take (i := 9) (v := ?_) rfl (by kernel_rfl) (by kernel_rfl) (by kernel_rfl) (by exact fun _ _ _ h => h) (by rfl) ?_ hS ?_
    rotate_left
    · ((intro w hSw; have y0 := blk_at hSw.1 0; have y1 := blk_at hSw.1 1; have y2 := blk_at hSw.1 2; have z0 := blk_at hSw.2 0; have z2 := blk_at hSw.2 2; have z3 := blk_at hSw.2 3; simp only [List.getElem?_cons_zero, List.getElem?_cons_succ] at y0 y1 y2 z0 z2 z3; clear hSw; go_simp) <;> with_reducible rfl)
    (try simp only [Act.put, List.setIfInBounds_toArray, List.set_cons_zero, List.set_cons_succ])
    refine any_take (i := 10) (v := ?_) rfl (by kernel_rfl) (by kernel_rfl) (by kernel_rfl) (by exact fun _ _ _ h => h) (by rfl) ?_ hS ?_
    rotate_left
    · ((intro w hSw; have y0 := blk_at hSw.1 0; have y1 := blk_at hSw.1 1; have y2 := blk_at hSw.1 2; have z0 := blk_at hSw.2 0; have z2 := blk_at hSw.2 2; have z3 := blk_at hSw.2 3; simp only [List.getElem?_cons_zero, List.getElem?_cons_succ] at y0 y1 y2 z0 z2 z3; clear hSw; go_simp) <;> with_reducible rfl)
    (try simp only [Act.put, List.setIfInBounds_toArray, List.set_cons_zero, List.set_cons_succ])
    refine any_take (i := 11) (v := ?_) rfl (by kernel_rfl) (by kernel_rfl) (by kernel_rfl) (by exact fun _ _ _ h => h) (by rfl) ?_ hS ?_
    rotate_left
    · ((intro w hSw; have y0 := blk_at hSw.1 0; have y1 := blk_at hSw.1 1; have y2 := blk_at hSw.1 2; have z0 := blk_at hSw.2 0; have z2 := blk_at hSw.2 2; have z3 := blk_at hSw.2 3; simp only [List.getElem?_cons_zero, List.getElem?_cons_succ] at y0 y1 y2 z0 z2 z3; clear hSw; go_simp) <;> with_reducible rfl)
    (try simp only [Act.put, List.setIfInBounds_toArray, List.set_cons_zero, List.set_cons_succ])
    refine any_take (i := 12) (v := ?_) rfl (by kernel_rfl) (by kernel_rfl) (by kernel_rfl) (by exact fun _ _ _ h => h) (by rfl) ?_ hS ?_
    rotate_left
    · ((intro w hSw; have y0 := blk_at hSw.1 0; have y1 := blk_at hSw.1 1; have y2 := blk_at hSw.1 2; have z0 := blk_at hSw.2 0; have z2 := blk_at hSw.2 2; have z3 := blk_at hSw.2 3; simp only [List.getElem?_cons_zero, List.getElem?_cons_succ] at y0 y1 y2 z0 z2 z3; clear hSw; go_simp) <;> with_reducible rfl)
    (try simp only [Act.put, List.setIfInBounds_toArray, List.set_cons_zero, List.set_cons_succ])
    refine any_take (i := 13) (v := ?_) rfl (by kernel_rfl) (by kernel_rfl) (by kernel_rfl) (by exact fun _ _ _ h => h) (by rfl) ?_ hS ?_
    rotate_left
    · ((intro w hSw; have y0 := blk_at hSw.1 0; have y1 := blk_at hSw.1 1; have y2 := blk_at hSw.1 2; have z0 := blk_at hSw.2 0; have z2 := blk_at hSw.2 2; have z3 := blk_at hSw.2 3; simp only [List.getElem?_cons_zero, List.getElem?_cons_succ] at y0 y1 y2 z0 z2 z3; clear hSw; go_simp) <;> with_reducible rfl)
    (try simp only [Act.put, List.setIfInBounds_toArray, List.set_cons_zero, List.set_cons_succ])
    refine any_take (i := 14) (v := ?_) rfl (by kernel_rfl) (by kernel_rfl) (by kernel_rfl) (by exact fun _ _ _ h => h) (by rfl) ?_ hS ?_
    rotate_left
    · ((intro w hSw; have y0 := blk_at hSw.1 0; have y1 := blk_at hSw.1 1; have y2 := blk_at hSw.1 2; have z0 := blk_at hSw.2 0; have z2 := blk_at hSw.2 2; have z3 := blk_at hSw.2 3; simp only [List.getElem?_cons_zero, List.getElem?_cons_succ] at y0 y1 y2 z0 z2 z3; clear hSw; go_simp) <;> with_reducible rfl)
    (try simp only [Act.put, List.setIfInBounds_toArray, List.set_cons_zero, List.set_cons_succ])
    refine any_take (i := 15) (v := ?_) rfl (by kernel_rfl) (by kernel_rfl) (by kernel_rfl) (by exact fun _ _ _ h => h) (by rfl) ?_ hS ?_
    rotate_left
    · ((intro w hSw; have y0 := blk_at hSw.1 0; have y1 := blk_at hSw.1 1; have y2 := blk_at hSw.1 2; have z0 := blk_at hSw.2 0; have z2 := blk_at hSw.2 2; have z3 := blk_at hSw.2 3; simp only [List.getElem?_cons_zero, List.getElem?_cons_succ] at y0 y1 y2 z0 z2 z3; clear hSw; go_simp) <;> with_reducible rfl)
    (try simp only [Act.put, List.setIfInBounds_toArray, List.set_cons_zero, List.set_cons_succ])
    refine any_take (i := 16) (v := ?_) rfl (by kernel_rfl) (by kernel_rfl) (by kernel_rfl) (by exact fun _ _ _ h => h) (by rfl) ?_ hS ?_
    rotate_left
    · ((intro w hSw; have y0 := blk_at hSw.1 0; have y1 := blk_at hSw.1 1; have y2 := blk_at hSw.1 2; have z0 := blk_at hSw.2 0; have z2 := blk_at hSw.2 2; have z3 := blk_at hSw.2 3; simp only [List.getElem?_cons_zero, List.getElem?_cons_succ] at y0 y1 y2 z0 z2 z3; clear hSw; go_simp) <;> with_reducible rfl)
    (try simp only [Act.put, List.setIfInBounds_toArray, List.set_cons_zero, List.set_cons_succ])
    refine wpAnyH_done (by kernel_rfl) ?_ _
    clear hS
    have F : Hid _ := below_then H4.out.2 (Below.refl _ _).drew
    clear H4
    go_wp2
    go_ret
    exact ⟨rfl, F.out⟩
  · clear hne
    generalize m.ps.length = N at *
    generalize m.s = ms at *
    have hN1 : ¬ cnt = N := fun e => hN e.symm
    have hN2 : ¬ (cnt : Int) = (N : Int) := by omega
    have hN3 : ((cnt : Int) == (N : Int)) = false := by rw [beq_eq_false_iff_ne]; omega
    have hN4 : (cnt == N) = false := by rw [beq_eq_false_iff_ne]; exact hN1
    have hN5 : (cnt != N) = true := by rw [bne_iff_ne]; exact hN1
    have hN6 : ((cnt : Int) != (N : Int)) = true := by rw [bne_iff_ne]; exact hN2
    refine wp_region_held_drew (S := fun W => Blk W g 74 [.int .i64 id, .int .u32 ms, .slice ta N N, DV, .int .i64 len, .int .i64 ad, K6, .int .i32 0, .int .u32 0, .bool false] ∧ Blk W P 56 [.int .i64 id, .int .i64 i, .int .i64 cnt, .int .u32 s, .slice x d.length c]) (by kernel_rfl) (⟨H2.out.1.1.laterB (Below.refl _ _).drew, H2.out.1.2.laterB (Below.refl _ _).drew⟩) (fun hS => ?_)
    refine any_take (i := 0) (v := ?_) rfl (by kernel_rfl) (by kernel_rfl) (by kernel_rfl) (by exact fun _ _ _ h => h) (by rfl) ?_ hS ?_
    rotate_left
    · ((intro w hSw; have y0 := blk_at hSw.1 0; have y1 := blk_at hSw.1 1; have y2 := blk_at hSw.1 2; have z0 := blk_at hSw.2 0; have z2 := blk_at hSw.2 2; have z3 := blk_at hSw.2 3; simp only [List.getElem?_cons_zero, List.getElem?_cons_succ] at y0 y1 y2 z0 z2 z3; clear hSw; go_simp) <;> with_reducible rfl)
    (try simp only [Act.put, List.setIfInBounds_toArray, List.set_cons_zero, List.set_cons_succ])
    refine any_take (i := 1) (v := ?_) rfl (by kernel_rfl) (by kernel_rfl) (by kernel_rfl) (by exact fun _ _ _ h => h) (by rfl) ?_ hS ?_
    rotate_left
    · ((intro w hSw; have y0 := blk_at hSw.1 0; have y1 := blk_at hSw.1 1; have y2 := blk_at hSw.1 2; have z0 := blk_at hSw.2 0; have z2 := blk_at hSw.2 2; have z3 := blk_at hSw.2 3; simp only [List.getElem?_cons_zero, List.getElem?_cons_succ] at y0 y1 y2 z0 z2 z3; clear hSw; go_simp) <;> with_reducible rfl)
    (try simp only [Act.put, List.setIfInBounds_toArray, List.set_cons_zero, List.set_cons_succ])
    refine any_take (i := 2) (v := ?_) rfl (by kernel_rfl) (by kernel_rfl) (by kernel_rfl) (by exact fun _ _ _ h => h) (by rfl) ?_ hS ?_
    rotate_left
    · ((intro w hSw; have y0 := blk_at hSw.1 0; have y1 := blk_at hSw.1 1; have y2 := blk_at hSw.1 2; have z0 := blk_at hSw.2 0; have z2 := blk_at hSw.2 2; have z3 := blk_at hSw.2 3; simp only [List.getElem?_cons_zero, List.getElem?_cons_succ] at y0 y1 y2 z0 z2 z3; clear hSw; go_simp) <;> with_reducible rfl)
    (try simp only [Act.put, List.setIfInBounds_toArray, List.set_cons_zero, List.set_cons_succ])
    refine any_take (i := 3) (v := ?_) rfl (by kernel_rfl) (by kernel_rfl) (by kernel_rfl) (by exact fun _ _ _ h => h) (by rfl) ?_ hS ?_
    rotate_left
    · ((intro w hSw; have y0 := blk_at hSw.1 0; have y1 := blk_at hSw.1 1; have y2 := blk_at hSw.1 2; have z0 := blk_at hSw.2 0; have z2 := blk_at hSw.2 2; have z3 := blk_at hSw.2 3; simp only [List.getElem?_cons_zero, List.getElem?_cons_succ] at y0 y1 y2 z0 z2 z3; clear hSw; go_simp) <;> with_reducible rfl)
    (try simp only [Act.put, List.setIfInBounds_toArray, List.set_cons_zero, List.set_cons_succ])
    refine any_take (i := 4) (v := ?_) rfl (by kernel_rfl) (by kernel_rfl) (by kernel_rfl) (by exact fun _ _ _ h => h) (by rfl) ?_ hS ?_
    rotate_left
    · ((intro w hSw; have y0 := blk_at hSw.1 0; have y1 := blk_at hSw.1 1; have y2 := blk_at hSw.1 2; have z0 := blk_at hSw.2 0; have z2 := blk_at hSw.2 2; have z3 := blk_at hSw.2 3; simp only [List.getElem?_cons_zero, List.getElem?_cons_succ] at y0 y1 y2 z0 z2 z3; clear hSw; go_simp) <;> with_reducible rfl)
    (try simp only [Act.put, List.setIfInBounds_toArray, List.set_cons_zero, List.set_cons_succ])
    refine any_take (i := 5) (v := ?_) rfl (by kernel_rfl) (by kernel_rfl) (by kernel_rfl) (by exact fun _ _ _ h => h) (by rfl) ?_ hS ?_
    rotate_left
    · ((intro w hSw; have y0 := blk_at hSw.1 0; have y1 := blk_at hSw.1 1; have y2 := blk_at hSw.1 2; have z0 := blk_at hSw.2 0; have z2 := blk_at hSw.2 2; have z3 := blk_at hSw.2 3; simp only [List.getElem?_cons_zero, List.getElem?_cons_succ] at y0 y1 y2 z0 z2 z3; clear hSw; go_simp) <;> with_reducible rfl)
    (try simp only [Act.put, List.setIfInBounds_toArray, List.set_cons_zero, List.set_cons_succ])
    refine any_take (i := 6) (v := ?_) rfl (by kernel_rfl) (by kernel_rfl) (by kernel_rfl) (by exact fun _ _ _ h => h) (by rfl) ?_ hS ?_
    rotate_left
    · ((intro w hSw; have y0 := blk_at hSw.1 0; have y1 := blk_at hSw.1 1; have y2 := blk_at hSw.1 2; have z0 := blk_at hSw.2 0; have z2 := blk_at hSw.2 2; have z3 := blk_at hSw.2 3; simp only [List.getElem?_cons_zero, List.getElem?_cons_succ] at y0 y1 y2 z0 z2 z3; clear hSw; go_simp) <;> with_reducible rfl)
    (try simp only [Act.put, List.setIfInBounds_toArray, List.set_cons_zero, List.set_cons_succ])
    refine wpAnyH_done (by kernel_rfl) ?_ _
    clear hS
    have H3 : Hid _ := And.intro (And.intro (H2.out.1.1.laterB (Below.refl _ _).drew) (H2.out.1.2.laterB (Below.refl _ _).drew)) (below_then H2.out.2 (Below.refl _ _).drew)
    generalize w2.drew = w3 at *
    clear H2
    go_upto_region 10 with fail
    refine wp_region_held_drew (S := fun W => Blk W g 74 [.int .i64 id, .int .u32 ms, .slice ta N N, DV, .int .i64 len, .int .i64 ad, K6, .int .i32 0, .int .u32 0, .bool false] ∧ Blk W P 56 [.int .i64 id, .int .i64 i, .int .i64 cnt, .int .u32 s, .slice x d.length c]) (by kernel_rfl) (⟨H3.out.1.1.laterB (Below.refl _ _).drew, H3.out.1.2.laterB (Below.refl _ _).drew⟩) (fun hS => ?_)
    refine any_take (i := 0) (v := ?_) rfl (by kernel_rfl) (by kernel_rfl) (by kernel_rfl) (by exact fun _ _ _ h => h) (by rfl) ?_ hS ?_
    rotate_left
    · ((intro w hSw; have y0 := blk_at hSw.1 0; have y1 := blk_at hSw.1 1; have y2 := blk_at hSw.1 2; have z0 := blk_at hSw.2 0; have z2 := blk_at hSw.2 2; have z3 := blk_at hSw.2 3; simp only [List.getElem?_cons_zero, List.getElem?_cons_succ] at y0 y1 y2 z0 z2 z3; clear hSw; go_simp) <;> with_reducible rfl)
    (try simp only [Act.put, List.setIfInBounds_toArray, List.set_cons_zero, List.set_cons_succ])
    refine any_take (i := 1) (v := ?_) rfl (by kernel_rfl) (by kernel_rfl) (by kernel_rfl) (by exact fun _ _ _ h => h) (by rfl) ?_ hS ?_
    rotate_left
    · ((intro w hSw; have y0 := blk_at hSw.1 0; have y1 := blk_at hSw.1 1; have y2 := blk_at hSw.1 2; have z0 := blk_at hSw.2 0; have z2 := blk_at hSw.2 2; have z3 := blk_at hSw.2 3; simp only [List.getElem?_cons_zero, List.getElem?_cons_succ] at y0 y1 y2 z0 z2 z3; clear hSw; go_simp) <;> with_reducible rfl)
    (try simp only [Act.put, List.setIfInBounds_toArray, List.set_cons_zero, List.set_cons_succ])
    refine any_take (i := 2) (v := ?_) rfl (by kernel_rfl) (by kernel_rfl) (by kernel_rfl) (by exact fun _ _ _ h => h) (by rfl) ?_ hS ?_
    rotate_left
    · ((intro w hSw; have y0 := blk_at hSw.1 0; have y1 := blk_at hSw.1 1; have y2 := blk_at hSw.1 2; have z0 := blk_at hSw.2 0; have z2 := blk_at hSw.2 2; have z3 := blk_at hSw.2 3; simp only [List.getElem?_cons_zero, List.getElem?_cons_succ] at y0 y1 y2 z0 z2 z3; clear hSw; go_simp) <;> with_reducible rfl)
    (try simp only [Act.put, List.setIfInBounds_toArray, List.set_cons_zero, List.set_cons_succ])
    refine any_take (i := 3) (v := ?_) rfl (by kernel_rfl) (by kernel_rfl) (by kernel_rfl) (by exact fun _ _ _ h => h) (by rfl) ?_ hS ?_
    rotate_left
    · ((intro w hSw; have y0 := blk_at hSw.1 0; have y1 := blk_at hSw.1 1; have y2 := blk_at hSw.1 2; have z0 := blk_at hSw.2 0; have z2 := blk_at hSw.2 2; have z3 := blk_at hSw.2 3; simp only [List.getElem?_cons_zero, List.getElem?_cons_succ] at y0 y1 y2 z0 z2 z3; clear hSw; go_simp) <;> with_reducible rfl)
    (try simp only [Act.put, List.setIfInBounds_toArray, List.set_cons_zero, List.set_cons_succ])
    refine any_take (i := 4) (v := ?_) rfl (by kernel_rfl) (by kernel_rfl) (by kernel_rfl) (by exact fun _ _ _ h => h) (by rfl) ?_ hS ?_
    rotate_left
    · ((intro w hSw; have y0 := blk_at hSw.1 0; have y1 := blk_at hSw.1 1; have y2 := blk_at hSw.1 2; have z0 := blk_at hSw.2 0; have z2 := blk_at hSw.2 2; have z3 := blk_at hSw.2 3; simp only [List.getElem?_cons_zero, List.getElem?_cons_succ] at y0 y1 y2 z0 z2 z3; clear hSw; go_simp) <;> with_reducible rfl)
    (try simp only [Act.put, List.setIfInBounds_toArray, List.set_cons_zero, List.set_cons_succ])
    refine any_take (i := 5) (v := ?_) rfl (by kernel_rfl) (by kernel_rfl) (by kernel_rfl) (by exact fun _ _ _ h => h) (by rfl) ?_ hS ?_
    rotate_left
    · ((intro w hSw; have y0 := blk_at hSw.1 0; have y1 := blk_at hSw.1 1; have y2 := blk_at hSw.1 2; have z0 := blk_at hSw.2 0; have z2 := blk_at hSw.2 2; have z3 := blk_at hSw.2 3; simp only [List.getElem?_cons_zero, List.getElem?_cons_succ] at y0 y1 y2 z0 z2 z3; clear hSw; go_simp) <;> with_reducible rfl)
    (try simp only [Act.put, List.setIfInBounds_toArray, List.set_cons_zero, List.set_cons_succ])
    refine any_take (i := 6) (v := ?_) rfl (by kernel_rfl) (by kernel_rfl) (by kernel_rfl) (by exact fun _ _ _ h => h) (by rfl) ?_ hS ?_
    rotate_left
    · ((intro w hSw; have y0 := blk_at hSw.1 0; have y1 := blk_at hSw.1 1; have y2 := blk_at hSw.1 2; have z0 := blk_at hSw.2 0; have z2 := blk_at hSw.2 2; have z3 := blk_at hSw.2 3; simp only [List.getElem?_cons_zero, List.getElem?_cons_succ] at y0 y1 y2 z0 z2 z3; clear hSw; go_simp) <;> with_reducible rfl)
    (try simp only [Act.put, List.setIfInBounds_toArray, List.set_cons_zero, List.set_cons_succ])
    refine wpAnyH_done (by kernel_rfl) ?_ _
    clear hS
    have H4 : Hid _ := And.intro (And.intro (H3.out.1.1.laterB (Below.refl _ _).drew) (H3.out.1.2.laterB (Below.refl _ _).drew)) (below_then H3.out.2 (Below.refl _ _).drew)
    generalize w3.drew = w4 at *
    clear H3
    go_upto_region 12 with fail
    refine wp_region_held_drew (S := fun W => Blk W g 74 [.int .i64 id, .int .u32 ms, .slice ta N N, DV, .int .i64 len, .int .i64 ad, K6, .int .i32 0, .int .u32 0, .bool false] ∧ Blk W P 56 [.int .i64 id, .int .i64 i, .int .i64 cnt, .int .u32 s, .slice x d.length c]) (by kernel_rfl) (⟨H4.out.1.1.laterB (Below.refl _ _).drew, H4.out.1.2.laterB (Below.refl _ _).drew⟩) (fun hS => ?_)
    refine any_take (i := 0) (v := ?_) rfl (by kernel_rfl) (by kernel_rfl) (by kernel_rfl) (by exact fun _ _ _ h => h) (by rfl) ?_ hS ?_
    rotate_left
    · ((intro w hSw; have y0 := blk_at hSw.1 0; have y1 := blk_at hSw.1 1; have y2 := blk_at hSw.1 2; have z0 := blk_at hSw.2 0; have z2 := blk_at hSw.2 2; have z3 := blk_at hSw.2 3; simp only [List.getElem?_cons_zero, List.getElem?_cons_succ] at y0 y1 y2 z0 z2 z3; clear hSw; go_simp) <;> with_reducible rfl)
    (try simp only [Act.put, List.setIfInBounds_toArray, List.set_cons_zero, List.set_cons_succ])
    refine any_take (i := 1) (v := ?_) rfl (by kernel_rfl) (by kernel_rfl) (by kernel_rfl) (by exact fun _ _ _ h => h) (by rfl) ?_ hS ?_
    rotate_left
    · ((intro w hSw; have y0 := blk_at hSw.1 0; have y1 := blk_at hSw.1 1; have y2 := blk_at hSw.1 2; have z0 := blk_at hSw.2 0; have z2 := blk_at hSw.2 2; have z3 := blk_at hSw.2 3; simp only [List.getElem?_cons_zero, List.getElem?_cons_succ] at y0 y1 y2 z0 z2 z3; clear hSw; go_simp) <;> with_reducible rfl)
    (try simp only [Act.put, List.setIfInBounds_toArray, List.set_cons_zero, List.set_cons_succ])
    refine any_take (i := 2) (v := ?_) rfl (by kernel_rfl) (by kernel_rfl) (by kernel_rfl) (by exact fun _ _ _ h => h) (by rfl) ?_ hS ?_
    rotate_left
    · ((intro w hSw; have y0 := blk_at hSw.1 0; have y1 := blk_at hSw.1 1; have y2 := blk_at hSw.1 2; have z0 := blk_at hSw.2 0; have z2 := blk_at hSw.2 2; have z3 := blk_at hSw.2 3; simp only [List.getElem?_cons_zero, List.getElem?_cons_succ] at y0 y1 y2 z0 z2 z3; clear hSw; go_simp) <;> with_reducible rfl)
    (try simp only [Act.put, List.setIfInBounds_toArray, List.set_cons_zero, List.set_cons_succ])
    refine any_take (i := 3) (v := ?_) rfl (by kernel_rfl) (by kernel_rfl) (by kernel_rfl) (by exact fun _ _ _ h => h) (by rfl) ?_ hS ?_
    rotate_left
    · ((intro w hSw; have y0 := blk_at hSw.1 0; have y1 := blk_at hSw.1 1; have y2 := blk_at hSw.1 2; have z0 := blk_at hSw.2 0; have z2 := blk_at hSw.2 2; have z3 := blk_at hSw.2 3; simp only [List.getElem?_cons_zero, List.getElem?_cons_succ] at y0 y1 y2 z0 z2 z3; clear hSw; go_simp) <;> with_reducible rfl)
    (try simp only [Act.put, List.setIfInBounds_toArray, List.set_cons_zero, List.set_cons_succ])
    refine any_take (i := 4) (v := ?_) rfl (by kernel_rfl) (by kernel_rfl) (by kernel_rfl) (by exact fun _ _ _ h => h) (by rfl) ?_ hS ?_
    rotate_left
    · ((intro w hSw; have y0 := blk_at hSw.1 0; have y1 := blk_at hSw.1 1; have y2 := blk_at hSw.1 2; have z0 := blk_at hSw.2 0; have z2 := blk_at hSw.2 2; have z3 := blk_at hSw.2 3; simp only [List.getElem?_cons_zero, List.getElem?_cons_succ] at y0 y1 y2 z0 z2 z3; clear hSw; go_simp) <;> with_reducible rfl)
    (try simp only [Act.put, List.setIfInBounds_toArray, List.set_cons_zero, List.set_cons_succ])
    refine any_take (i := 5) (v := ?_) rfl (by kernel_rfl) (by kernel_rfl) (by kernel_rfl) (by exact fun _ _ _ h => h) (by rfl) ?_ hS ?_
    rotate_left
    · ((intro w hSw; have y0 := blk_at hSw.1 0; have y1 := blk_at hSw.1 1; have y2 := blk_at hSw.1 2; have z0 := blk_at hSw.2 0; have z2 := blk_at hSw.2 2; have z3 := blk_at hSw.2 3; simp only [List.getElem?_cons_zero, List.getElem?_cons_succ] at y0 y1 y2 z0 z2 z3; clear hSw; go_simp) <;> with_reducible rfl)
    (try simp only [Act.put, List.setIfInBounds_toArray, List.set_cons_zero, List.set_cons_succ])
    refine any_take (i := 6) (v := ?_) rfl (by kernel_rfl) (by kernel_rfl) (by kernel_rfl) (by exact fun _ _ _ h => h) (by rfl) ?_ hS ?_
    rotate_left
    · ((intro w hSw; have y0 := blk_at hSw.1 0; have y1 := blk_at hSw.1 1; have y2 := blk_at hSw.1 2; have z0 := blk_at hSw.2 0; have z2 := blk_at hSw.2 2; have z3 := blk_at hSw.2 3; simp only [List.getElem?_cons_zero, List.getElem?_cons_succ] at y0 y1 y2 z0 z2 z3; clear hSw; go_simp) <;> with_reducible rfl)
    (try simp only [Act.put, List.setIfInBounds_toArray, List.set_cons_zero, List.set_cons_succ])
    refine any_take (i := 7) (v := ?_) rfl (by kernel_rfl) (by kernel_rfl) (by kernel_rfl) (by exact fun _ _ _ h => h) (by rfl) ?_ hS ?_
    rotate_left
    · ((intro w hSw; have y0 := blk_at hSw.1 0; have y1 := blk_at hSw.1 1; have y2 := blk_at hSw.1 2; have z0 := blk_at hSw.2 0; have z2 := blk_at hSw.2 2; have z3 := blk_at hSw.2 3; simp only [List.getElem?_cons_zero, List.getElem?_cons_succ] at y0 y1 y2 z0 z2 z3; clear hSw; go_simp) <;> with_reducible rfl)
    (try simp only [Act.put, List.setIfInBounds_toArray, List.set_cons_zero, List.set_cons_succ])
    refine any_take (i := 8) (v := ?_) rfl (by kernel_rfl) (by kernel_rfl) (by kernel_rfl) (by exact fun _ _ _ h => h) (by rfl) ?_ hS ?_
    rotate_left
    · ((intro w hSw; have y0 := blk_at hSw.1 0; have y1 := blk_at hSw.1 1; have y2 := blk_at hSw.1 2; have z0 := blk_at hSw.2 0; have z2 := blk_at hSw.2 2; have z3 := blk_at hSw.2 3; simp only [List.getElem?_cons_zero, List.getElem?_cons_succ] at y0 y1 y2 z0 z2 z3; clear hSw; go_simp) <;> with_reducible rfl)
    (try simp only [Act.put, List.setIfInBounds_toArray, List.set_cons_zero, List.set_cons_succ])
    refine any_skip (i := 9) rfl (by kernel_rfl) (by kernel_rfl) (by kernel_rfl) (by exact fun _ _ _ h => h) (by rfl) hS ?_
    (try simp only [Act.put, List.setIfInBounds_toArray, List.set_cons_zero, List.set_cons_succ])
    refine any_skip (i := 10) rfl (by kernel_rfl) (by kernel_rfl) (by kernel_rfl) (by exact fun _ _ _ h => h) (by rfl) hS ?_
    (try simp only [Act.put, List.setIfInBounds_toArray, List.set_cons_zero, List.set_cons_succ])
    refine any_skip (i := 11) rfl (by kernel_rfl) (by kernel_rfl) (by kernel_rfl) (by exact fun _ _ _ h => h) (by rfl) hS ?_
    (try simp only [Act.put, List.setIfInBounds_toArray, List.set_cons_zero, List.set_cons_succ])
    refine any_skip (i := 12) rfl (by kernel_rfl) (by kernel_rfl) (by kernel_rfl) (by exact fun _ _ _ h => h) (by rfl) hS ?_
    (try simp only [Act.put, List.setIfInBounds_toArray, List.set_cons_zero, List.set_cons_succ])
    refine any_skip (i := 13) rfl (by kernel_rfl) (by kernel_rfl) (by kernel_rfl) (by exact fun _ _ _ h => h) (by rfl) hS ?_
    (try simp only [Act.put, List.setIfInBounds_toArray, List.set_cons_zero, List.set_cons_succ])
    refine any_skip (i := 14) rfl (by kernel_rfl) (by kernel_rfl) (by kernel_rfl) (by exact fun _ _ _ h => h) (by rfl) hS ?_
    (try simp only [Act.put, List.setIfInBounds_toArray, List.set_cons_zero, List.set_cons_succ])
    refine any_skip (i := 15) rfl (by kernel_rfl) (by kernel_rfl) (by kernel_rfl) (by exact fun _ _ _ h => h) (by rfl) hS ?_
    (try simp only [Act.put, List.setIfInBounds_toArray, List.set_cons_zero, List.set_cons_succ])
    refine any_take (i := 16) (v := ?_) rfl (by kernel_rfl) (by kernel_rfl) (by kernel_rfl) (by exact fun _ _ _ h => h) (by rfl) ?_ hS ?_
    rotate_left
    · ((intro w hSw; have y0 := blk_at hSw.1 0; have y1 := blk_at hSw.1 1; have y2 := blk_at hSw.1 2; have z0 := blk_at hSw.2 0; have z2 := blk_at hSw.2 2; have z3 := blk_at hSw.2 3; simp only [List.getElem?_cons_zero, List.getElem?_cons_succ] at y0 y1 y2 z0 z2 z3; clear hSw; go_simp) <;> with_reducible rfl)
    (try simp only [Act.put, List.setIfInBounds_toArray, List.set_cons_zero, List.set_cons_succ])
    refine wpAnyH_done (by kernel_rfl) ?_ _
    clear hS
    have F : Hid _ := below_then H4.out.2 (Below.refl _ _).drew
    clear H4
    go_wp2
    go_ret
    exact ⟨rfl, F.out⟩
end Go.Proofs.Ytgonglbgejaffaa

/- Add: a piece is taken. -/
namespace Go.Proofs.Ytgonglbgejaffaa
open Go.RowKit
set_option linter.unusedVariables false
set_option linter.unusedSimpArgs false
set_option maxRecDepth 4000

theorem add_step2 {w w4 w7 : World} {o : Ob} {p1 p' : CQl} {m1 m' : CR} (h1 : Step w w4 o (cqOb p1 m1)) (hT : Turned (· ∈ (cqOb p1 m1).W) w4 w7) (hok : (cqOb p' m').Ok w7) (hW : ∀ k ∈ (cqOb p' m').W, k ∈ (cqOb p1 m1).W) (hV : ∀ k ∈ (cqOb p' m').V, k ∈ (cqOb p1 m1).V ∨ w.heap.size ≤ k) :
    Step w (w7.setCell ⟨p'.g, 5, none⟩ (.int .i64 (m'.ad + 1))) o (cqOb p' (addM m')) := by
  have u := turned_set w7 p'.g 5 (.int .i64 (m'.ad + 1))
  have hg : p'.g ∈ (cqOb p1 m1).W := hW _ (mem_cqW.2 (.inl rfl))
  have hT2 : Turned (· ∈ (cqOb p1 m1).W) w4 (w7.setCell ⟨p'.g, 5, none⟩ (.int .i64 (m'.ad + 1))) := hT.trans (u.mono (fun k e => .inl (by rw [e]; exact hg)))
  refine ⟨h1.turned.trans (hT2.mono (fun k e => h1.writes k e)), added_ok2 hok, fun k hk => h1.writes k (hW k hk), fun k hk => ?_⟩
  rcases hV k hk with e | e
  · exact h1.reads k e
  · exact .inr (.inr e)
set_option maxHeartbeats 8000000 in
theorem add_same2 (a : Option Addr) (cap : Nat) (l : List (BitVec 8)) (p : CQl) (m : CR) (w : World) (h : (cqOb p m).Ok w) (hcl : p.cl = false) (hle : l.length ≤ cap) (hr : Row w a l) (hn : a = none → cap = 0) (hlen : l.length ≤ 140737488351232) (hE : dcE l = 0) (id s : Int) (i cnt : Nat) (d : List (BitVec 8)) (hR : dcR l = (id, (i : Int), (cnt : Int), s, d)) (hid : m.id = id) (hs : m.s = s) (hps : m.ps.length = cnt) (hic : i < cnt) (hc2 : cnt ≤ 256) (hl0 : lenOf m.ps + d.length ≤ 1000000000000) (hadm0 : m.ad ≤ 1000000000) :
    Calls Try.prog 16 #[.pointer (some ⟨p.g, 0, none⟩), .slice a l.length cap] w fun e w' => e = .returned (.int .i64 0) ∧ ∃ p', p'.g = p.g ∧ p'.cl = false ∧ Step w w' (cqOb p m) (cqOb p' (addM (setPc m i d))) := by
  have HD : Hid _ := decode_any a cap l w hle hr hn hlen
  have hG := h.holds.blk
  rw [hcl] at hG
  have y9 := blk_at hG 9
  simp only [List.getElem?_cons_zero, List.getElem?_cons_succ] at y9
  rw [hE, hR] at HD
  dsimp only at HD
  clear hr hn
  obtain ⟨g, hg⟩ : ∃ g, g = p.g := ⟨_, rfl⟩
  go_enter Try.func16, Try.ntmps16
  go_wp2_with fail
  clear y9
  refine (Calls.mono HD.out) ?_
  rintro r w1 ⟨x, c, rfl, ho, b1⟩
  have b2 : Below w1.heap.size w1 (w1.alloc (.cells #[.int .i64 id, .int .i64 i, .int .i64 cnt, .int .u32 s, .slice x d.length c] 56)) := (Below.refl _ _).alloc (Nat.le_refl _) _
  have hP := Blk.new' w1 56 [.int .i64 id, .int .i64 i, .int .i64 cnt, .int .u32 s, .slice x d.length c]
  have hPW : w1.heap.size ∉ (cqOb p m).W := fun hk => by have := h.lt _ (.inl hk); have := b1.size; omega
  have K2 : Hid _ := And.intro (h.later (below_then b1 b2)) (And.intro (below_then b1 b2) (And.intro ((ho.later b2) : Own _ w.heap.size _ d) (And.intro hP (And.intro h hPW))))
  clear HD ho b1 b2 hP h hG hPW
  go_upto_region 8 with fail
  obtain ⟨P, hPe⟩ : ∃ P, P = w1.heap.size := ⟨_, rfl⟩
  rw [← hPe] at K2 ⊢
  generalize (w1.alloc (.cells #[.int .i64 id, .int .i64 i, .int .i64 cnt, .int .u32 s, .slice x d.length c] 56)) = w2 at *
  clear hPe
  obtain ⟨p1, hp1⟩ : ∃ p1, p1 = p := ⟨_, rfl⟩
  obtain ⟨m1, hm1⟩ : ∃ m1, m1 = m := ⟨_, rfl⟩
  have hadm : m1.ad ≤ 1000000000 := by rw [hm1]; exact hadm0
  have hl1 : lenOf m1.ps + d.length ≤ 1000000000000 := by rw [hm1]; exact hl0
  have q4 : (cqOb p m).Ok w2.drew := K2.out.1.later (Below.refl _ _).drew
  have K4 : Hid ((cqOb p1 m1).Ok w2.drew ∧ Step w w2.drew (cqOb p m) (cqOb p1 m1) ∧ Own w2.drew w.heap.size (.slice x d.length c) d ∧ Blk w2.drew P 56 [.int .i64 id, .int .i64 i, .int .i64 cnt, .int .u32 s, .slice x d.length c]) := by
    rw [hp1, hm1]
    exact ⟨q4, ⟨tnd6 (below_then K2.out.2.1 (Below.refl _ _).drew), q4, fun k hk => .inl hk, fun k hk => .inr (.inl hk)⟩, K2.out.2.2.1.later (Below.refl _ _).drew, K2.out.2.2.2.1.laterB (Below.refl _ _).drew⟩
  have e1 : m1.id = id ∧ m1.s = s ∧ m1.ps.length = cnt ∧ p1.g = g ∧ p1.cl = false := by rw [hm1, hp1]; exact ⟨hid, hs, hps, hg.symm, hcl⟩
  have hGs := K2.out.1.holds.blk
  obtain ⟨ta, hta⟩ := tv_is p m.ps.length
  rw [hta, hid, hs, hps, ← hg, hcl] at hGs
  have H2 : Hid _ := And.intro hGs K2.out.2.2.2.1
  rw [← hg]
  have HM : Hid _ := And.intro hm1 trivial
  have HGg : Hid _ := And.intro hg trivial
  have HE1 : Hid _ := And.intro e1 trivial
  clear hg e1
  clear K2 hps q4 hid hs hGs hl0 hadm0 hm1 hp1 hcl hta
  refine wp_region_held_drew (S := fun W => Blk W g 74 [.int .i64 id, .int .u32 s, .slice ta cnt cnt, p.dv m.ps, .int .i64 (lenOf m.ps), .int .i64 m.ad, p.c6, .int .i32 0, .int .u32 0, .bool false] ∧ Blk W P 56 [.int .i64 id, .int .i64 i, .int .i64 cnt, .int .u32 s, .slice x d.length c]) (by kernel_rfl) (⟨H2.out.1.laterB (Below.refl _ _).drew, H2.out.2.laterB (Below.refl _ _).drew⟩) (fun hS => ?_)
  refine any_take (i := 0) (v := ?_) rfl (by kernel_rfl) (by kernel_rfl) (by kernel_rfl) (by exact fun _ _ _ h => h) (by rfl) ?_ hS ?_
  rotate_left
  · ((intro w hSw; have y0 := blk_at hSw.1 0; have y1 := blk_at hSw.1 1; have y2 := blk_at hSw.1 2; have z0 := blk_at hSw.2 0; have z2 := blk_at hSw.2 2; have z3 := blk_at hSw.2 3; simp only [List.getElem?_cons_zero, List.getElem?_cons_succ] at y0 y1 y2 z0 z2 z3; clear hSw; go_simp) <;> with_reducible rfl)
  (try simp only [Act.put, List.setIfInBounds_toArray, List.set_cons_zero, List.set_cons_succ])
  refine any_take (i := 1) (v := ?_) rfl (by kernel_rfl) (by kernel_rfl) (by kernel_rfl) (by exact fun _ _ _ h => h) (by rfl) ?_ hS ?_
  rotate_left
  · ((intro w hSw; have y0 := blk_at hSw.1 0; have y1 := blk_at hSw.1 1; have y2 := blk_at hSw.1 2; have z0 := blk_at hSw.2 0; have z2 := blk_at hSw.2 2; have z3 := blk_at hSw.2 3; simp only [List.getElem?_cons_zero, List.getElem?_cons_succ] at y0 y1 y2 z0 z2 z3; clear hSw; go_simp) <;> with_reducible rfl)
  (try simp only [Act.put, List.setIfInBounds_toArray, List.set_cons_zero, List.set_cons_succ])
  refine any_take (i := 2) (v := ?_) rfl (by kernel_rfl) (by kernel_rfl) (by kernel_rfl) (by exact fun _ _ _ h => h) (by rfl) ?_ hS ?_
  rotate_left
  · ((intro w hSw; have y0 := blk_at hSw.1 0; have y1 := blk_at hSw.1 1; have y2 := blk_at hSw.1 2; have z0 := blk_at hSw.2 0; have z2 := blk_at hSw.2 2; have z3 := blk_at hSw.2 3; simp only [List.getElem?_cons_zero, List.getElem?_cons_succ] at y0 y1 y2 z0 z2 z3; clear hSw; go_simp) <;> with_reducible rfl)
  (try simp only [Act.put, List.setIfInBounds_toArray, List.set_cons_zero, List.set_cons_succ])
  refine any_take (i := 3) (v := ?_) rfl (by kernel_rfl) (by kernel_rfl) (by kernel_rfl) (by exact fun _ _ _ h => h) (by rfl) ?_ hS ?_
  rotate_left
  · ((intro w hSw; have y0 := blk_at hSw.1 0; have y1 := blk_at hSw.1 1; have y2 := blk_at hSw.1 2; have z0 := blk_at hSw.2 0; have z2 := blk_at hSw.2 2; have z3 := blk_at hSw.2 3; simp only [List.getElem?_cons_zero, List.getElem?_cons_succ] at y0 y1 y2 z0 z2 z3; clear hSw; go_simp) <;> with_reducible rfl)
  (try simp only [Act.put, List.setIfInBounds_toArray, List.set_cons_zero, List.set_cons_succ])
  refine any_take (i := 4) (v := ?_) rfl (by kernel_rfl) (by kernel_rfl) (by kernel_rfl) (by exact fun _ _ _ h => h) (by rfl) ?_ hS ?_
  rotate_left
  · ((intro w hSw; have y0 := blk_at hSw.1 0; have y1 := blk_at hSw.1 1; have y2 := blk_at hSw.1 2; have z0 := blk_at hSw.2 0; have z2 := blk_at hSw.2 2; have z3 := blk_at hSw.2 3; simp only [List.getElem?_cons_zero, List.getElem?_cons_succ] at y0 y1 y2 z0 z2 z3; clear hSw; go_simp) <;> with_reducible rfl)
  (try simp only [Act.put, List.setIfInBounds_toArray, List.set_cons_zero, List.set_cons_succ])
  refine any_take (i := 5) (v := ?_) rfl (by kernel_rfl) (by kernel_rfl) (by kernel_rfl) (by exact fun _ _ _ h => h) (by rfl) ?_ hS ?_
  rotate_left
  · ((intro w hSw; have y0 := blk_at hSw.1 0; have y1 := blk_at hSw.1 1; have y2 := blk_at hSw.1 2; have z0 := blk_at hSw.2 0; have z2 := blk_at hSw.2 2; have z3 := blk_at hSw.2 3; simp only [List.getElem?_cons_zero, List.getElem?_cons_succ] at y0 y1 y2 z0 z2 z3; clear hSw; go_simp) <;> with_reducible rfl)
  (try simp only [Act.put, List.setIfInBounds_toArray, List.set_cons_zero, List.set_cons_succ])
  refine any_take (i := 6) (v := ?_) rfl (by kernel_rfl) (by kernel_rfl) (by kernel_rfl) (by exact fun _ _ _ h => h) (by rfl) ?_ hS ?_
  rotate_left
  · ((intro w hSw; have y0 := blk_at hSw.1 0; have y1 := blk_at hSw.1 1; have y2 := blk_at hSw.1 2; have z0 := blk_at hSw.2 0; have z2 := blk_at hSw.2 2; have z3 := blk_at hSw.2 3; simp only [List.getElem?_cons_zero, List.getElem?_cons_succ] at y0 y1 y2 z0 z2 z3; clear hSw; go_simp) <;> with_reducible rfl)
  (try simp only [Act.put, List.setIfInBounds_toArray, List.set_cons_zero, List.set_cons_succ])
  refine wpAnyH_done (by kernel_rfl) ?_ _
  clear hS
  generalize w2.drew = w4 at *
  clear H2 ta
  have hm1 := HM.out.1
  have e1 := HE1.out.1
  have hGb := K4.out.1.holds.blk
  obtain ⟨ta, hta⟩ := tv_is p1 m1.ps.length
  rw [hta, e1.1, e1.2.1, e1.2.2.1, e1.2.2.2.1, e1.2.2.2.2] at hGb
  have HPut : Hid (∀ W, Below w4.heap.size w4 W → Calls Try.prog 37 #[.pointer (some ⟨g, 0, none⟩), .agg #[.int .i64 id, .int .i64 i, .int .i64 cnt, .int .u32 s, .slice x d.length c]] W fun e w' => e = .returned (.tuple #[]) ∧ ∃ p', p'.g = g ∧ p'.cl = false ∧ (cqOb p' (setPc m1 i d)).Ok w' ∧ Turned (· ∈ (cqOb p1 m1).W) w4 w' ∧ (∀ k ∈ (cqOb p' (setPc m1 i d)).W, k ∈ (cqOb p1 m1).W) ∧ ∀ k ∈ (cqOb p' (setPc m1 i d)).V, k ∈ (cqOb p1 m1).V ∨ w.heap.size ≤ k) := fun W hW => by
    have hok := K4.out.1.later hW
    have hown := K4.out.2.2.1.later hW
    have := cqPut_any p1 m1 id i cnt s x c d W hok (by rw [e1.2.2.1]; exact hic) hl1 (hown.lower (Nat.zero_le _)) (own_notW2 hok.holds hown)
    rw [e1.2.2.2.1] at this
    refine this.mono ?_
    rintro e w' ⟨rfl, p', q1, qc, q2, q3, q4, q5⟩
    refine ⟨rfl, p', q1, qc.trans e1.2.2.2.2, q2, (tnd6 hW).trans (q3.mono (fun k e => .inl e)), q4, fun k hk => (q5 k hk).imp (fun e => e) (fun e => ?_)⟩
    exact (World.ownsRow.lt hown k e).1
  have H4 : Hid _ := And.intro (And.intro hGb K4.out.2.2.2) (Below.refl w4.heap.size w4)
  have KS : Hid _ := And.intro K4.out.2.1 (And.intro (show (setPc m1 i d).ad = m1.ad from setPc_ad m1 i d) hm1)
  clear K4 hGb hta hl1 e1 hm1
  generalize p1.dv m1.ps = DV at *
  generalize p1.c6 = K6 at *
  generalize lenOf m1.ps = len at *
  obtain ⟨ad, had1⟩ : ∃ ad, ad = m1.ad := ⟨_, rfl⟩
  rw [← had1] at H4
  go_upto_region 10 with fail
  refine wp_region_held_drew (S := fun W => Blk W g 74 [.int .i64 id, .int .u32 s, .slice ta cnt cnt, DV, .int .i64 len, .int .i64 ad, K6, .int .i32 0, .int .u32 0, .bool false] ∧ Blk W P 56 [.int .i64 id, .int .i64 i, .int .i64 cnt, .int .u32 s, .slice x d.length c]) (by kernel_rfl) (⟨H4.out.1.1.laterB (Below.refl _ _).drew, H4.out.1.2.laterB (Below.refl _ _).drew⟩) (fun hS => ?_)
  refine any_take (i := 0) (v := ?_) rfl (by kernel_rfl) (by kernel_rfl) (by kernel_rfl) (by exact fun _ _ _ h => h) (by rfl) ?_ hS ?_
  rotate_left
  · ((intro w hSw; have y0 := blk_at hSw.1 0; have y1 := blk_at hSw.1 1; have y2 := blk_at hSw.1 2; have z0 := blk_at hSw.2 0; have z2 := blk_at hSw.2 2; have z3 := blk_at hSw.2 3; simp only [List.getElem?_cons_zero, List.getElem?_cons_succ] at y0 y1 y2 z0 z2 z3; clear hSw; go_simp) <;> with_reducible rfl)
  (try simp only [Act.put, List.setIfInBounds_toArray, List.set_cons_zero, List.set_cons_succ])
  refine any_take (i := 1) (v := ?_) rfl (by kernel_rfl) (by kernel_rfl) (by kernel_rfl) (by exact fun _ _ _ h => h) (by rfl) ?_ hS ?_
  rotate_left
  · ((intro w hSw; have y0 := blk_at hSw.1 0; have y1 := blk_at hSw.1 1; have y2 := blk_at hSw.1 2; have z0 := blk_at hSw.2 0; have z2 := blk_at hSw.2 2; have z3 := blk_at hSw.2 3; simp only [List.getElem?_cons_zero, List.getElem?_cons_succ] at y0 y1 y2 z0 z2 z3; clear hSw; go_simp) <;> with_reducible rfl)
  (try simp only [Act.put, List.setIfInBounds_toArray, List.set_cons_zero, List.set_cons_succ])
  refine any_take (i := 2) (v := ?_) rfl (by kernel_rfl) (by kernel_rfl) (by kernel_rfl) (by exact fun _ _ _ h => h) (by rfl) ?_ hS ?_
  rotate_left
  · ((intro w hSw; have y0 := blk_at hSw.1 0; have y1 := blk_at hSw.1 1; have y2 := blk_at hSw.1 2; have z0 := blk_at hSw.2 0; have z2 := blk_at hSw.2 2; have z3 := blk_at hSw.2 3; simp only [List.getElem?_cons_zero, List.getElem?_cons_succ] at y0 y1 y2 z0 z2 z3; clear hSw; go_simp) <;> with_reducible rfl)
  (try simp only [Act.put, List.setIfInBounds_toArray, List.set_cons_zero, List.set_cons_succ])
  refine any_take (i := 3) (v := ?_) rfl (by kernel_rfl) (by kernel_rfl) (by kernel_rfl) (by exact fun _ _ _ h => h) (by rfl) ?_ hS ?_
  rotate_left
  · ((intro w hSw; have y0 := blk_at hSw.1 0; have y1 := blk_at hSw.1 1; have y2 := blk_at hSw.1 2; have z0 := blk_at hSw.2 0; have z2 := blk_at hSw.2 2; have z3 := blk_at hSw.2 3; simp only [List.getElem?_cons_zero, List.getElem?_cons_succ] at y0 y1 y2 z0 z2 z3; clear hSw; go_simp) <;> with_reducible rfl)
  (try simp only [Act.put, List.setIfInBounds_toArray, List.set_cons_zero, List.set_cons_succ])
  refine any_take (i := 4) (v := ?_) rfl (by kernel_rfl) (by kernel_rfl) (by kernel_rfl) (by exact fun _ _ _ h => h) (by rfl) ?_ hS ?_
  rotate_left
  · ((intro w hSw; have y0 := blk_at hSw.1 0; have y1 := blk_at hSw.1 1; have y2 := blk_at hSw.1 2; have z0 := blk_at hSw.2 0; have z2 := blk_at hSw.2 2; have z3 := blk_at hSw.2 3; simp only [List.getElem?_cons_zero, List.getElem?_cons_succ] at y0 y1 y2 z0 z2 z3; clear hSw; go_simp) <;> with_reducible rfl)
  (try simp only [Act.put, List.setIfInBounds_toArray, List.set_cons_zero, List.set_cons_succ])
  refine any_take (i := 5) (v := ?_) rfl (by kernel_rfl) (by kernel_rfl) (by kernel_rfl) (by exact fun _ _ _ h => h) (by rfl) ?_ hS ?_
  rotate_left
  · ((intro w hSw; have y0 := blk_at hSw.1 0; have y1 := blk_at hSw.1 1; have y2 := blk_at hSw.1 2; have z0 := blk_at hSw.2 0; have z2 := blk_at hSw.2 2; have z3 := blk_at hSw.2 3; simp only [List.getElem?_cons_zero, List.getElem?_cons_succ] at y0 y1 y2 z0 z2 z3; clear hSw; go_simp) <;> with_reducible rfl)
  (try simp only [Act.put, List.setIfInBounds_toArray, List.set_cons_zero, List.set_cons_succ])
  refine any_take (i := 6) (v := ?_) rfl (by kernel_rfl) (by kernel_rfl) (by kernel_rfl) (by exact fun _ _ _ h => h) (by rfl) ?_ hS ?_
  rotate_left
  · ((intro w hSw; have y0 := blk_at hSw.1 0; have y1 := blk_at hSw.1 1; have y2 := blk_at hSw.1 2; have z0 := blk_at hSw.2 0; have z2 := blk_at hSw.2 2; have z3 := blk_at hSw.2 3; simp only [List.getElem?_cons_zero, List.getElem?_cons_succ] at y0 y1 y2 z0 z2 z3; clear hSw; go_simp) <;> with_reducible rfl)
  (try simp only [Act.put, List.setIfInBounds_toArray, List.set_cons_zero, List.set_cons_succ])
  refine wpAnyH_done (by kernel_rfl) ?_ _
  clear hS
  have H5 : Hid _ := And.intro (And.intro (H4.out.1.1.laterB (Below.refl _ _).drew) (H4.out.1.2.laterB (Below.refl _ _).drew)) (below_then H4.out.2 (Below.refl _ _).drew)
  generalize w4.drew = w5 at *
  clear H4
  go_upto_region 12 with fail
  refine wp_region_held_drew (S := fun W => Blk W g 74 [.int .i64 id, .int .u32 s, .slice ta cnt cnt, DV, .int .i64 len, .int .i64 ad, K6, .int .i32 0, .int .u32 0, .bool false] ∧ Blk W P 56 [.int .i64 id, .int .i64 i, .int .i64 cnt, .int .u32 s, .slice x d.length c]) (by kernel_rfl) (⟨H5.out.1.1.laterB (Below.refl _ _).drew, H5.out.1.2.laterB (Below.refl _ _).drew⟩) (fun hS => ?_)
  refine any_take (i := 0) (v := ?_) rfl (by kernel_rfl) (by kernel_rfl) (by kernel_rfl) (by exact fun _ _ _ h => h) (by rfl) ?_ hS ?_
  rotate_left
  · ((intro w hSw; have y0 := blk_at hSw.1 0; have y1 := blk_at hSw.1 1; have y2 := blk_at hSw.1 2; have z0 := blk_at hSw.2 0; have z2 := blk_at hSw.2 2; have z3 := blk_at hSw.2 3; simp only [List.getElem?_cons_zero, List.getElem?_cons_succ] at y0 y1 y2 z0 z2 z3; clear hSw; go_simp) <;> with_reducible rfl)
  (try simp only [Act.put, List.setIfInBounds_toArray, List.set_cons_zero, List.set_cons_succ])
  refine any_take (i := 1) (v := ?_) rfl (by kernel_rfl) (by kernel_rfl) (by kernel_rfl) (by exact fun _ _ _ h => h) (by rfl) ?_ hS ?_
  rotate_left
  · ((intro w hSw; have y0 := blk_at hSw.1 0; have y1 := blk_at hSw.1 1; have y2 := blk_at hSw.1 2; have z0 := blk_at hSw.2 0; have z2 := blk_at hSw.2 2; have z3 := blk_at hSw.2 3; simp only [List.getElem?_cons_zero, List.getElem?_cons_succ] at y0 y1 y2 z0 z2 z3; clear hSw; go_simp) <;> with_reducible rfl)
  (try simp only [Act.put, List.setIfInBounds_toArray, List.set_cons_zero, List.set_cons_succ])
  refine any_take (i := 2) (v := ?_) rfl (by kernel_rfl) (by kernel_rfl) (by kernel_rfl) (by exact fun _ _ _ h => h) (by rfl) ?_ hS ?_
  rotate_left
  · ((intro w hSw; have y0 := blk_at hSw.1 0; have y1 := blk_at hSw.1 1; have y2 := blk_at hSw.1 2; have z0 := blk_at hSw.2 0; have z2 := blk_at hSw.2 2; have z3 := blk_at hSw.2 3; simp only [List.getElem?_cons_zero, List.getElem?_cons_succ] at y0 y1 y2 z0 z2 z3; clear hSw; go_simp) <;> with_reducible rfl)
  (try simp only [Act.put, List.setIfInBounds_toArray, List.set_cons_zero, List.set_cons_succ])
  refine any_take (i := 3) (v := ?_) rfl (by kernel_rfl) (by kernel_rfl) (by kernel_rfl) (by exact fun _ _ _ h => h) (by rfl) ?_ hS ?_
  rotate_left
  · ((intro w hSw; have y0 := blk_at hSw.1 0; have y1 := blk_at hSw.1 1; have y2 := blk_at hSw.1 2; have z0 := blk_at hSw.2 0; have z2 := blk_at hSw.2 2; have z3 := blk_at hSw.2 3; simp only [List.getElem?_cons_zero, List.getElem?_cons_succ] at y0 y1 y2 z0 z2 z3; clear hSw; go_simp) <;> with_reducible rfl)
  (try simp only [Act.put, List.setIfInBounds_toArray, List.set_cons_zero, List.set_cons_succ])
  refine any_take (i := 4) (v := ?_) rfl (by kernel_rfl) (by kernel_rfl) (by kernel_rfl) (by exact fun _ _ _ h => h) (by rfl) ?_ hS ?_
  rotate_left
  · ((intro w hSw; have y0 := blk_at hSw.1 0; have y1 := blk_at hSw.1 1; have y2 := blk_at hSw.1 2; have z0 := blk_at hSw.2 0; have z2 := blk_at hSw.2 2; have z3 := blk_at hSw.2 3; simp only [List.getElem?_cons_zero, List.getElem?_cons_succ] at y0 y1 y2 z0 z2 z3; clear hSw; go_simp) <;> with_reducible rfl)
  (try simp only [Act.put, List.setIfInBounds_toArray, List.set_cons_zero, List.set_cons_succ])
  refine any_take (i := 5) (v := ?_) rfl (by kernel_rfl) (by kernel_rfl) (by kernel_rfl) (by exact fun _ _ _ h => h) (by rfl) ?_ hS ?_
  rotate_left
  · ((intro w hSw; have y0 := blk_at hSw.1 0; have y1 := blk_at hSw.1 1; have y2 := blk_at hSw.1 2; have z0 := blk_at hSw.2 0; have z2 := blk_at hSw.2 2; have z3 := blk_at hSw.2 3; simp only [List.getElem?_cons_zero, List.getElem?_cons_succ] at y0 y1 y2 z0 z2 z3; clear hSw; go_simp) <;> with_reducible rfl)
  (try simp only [Act.put, List.setIfInBounds_toArray, List.set_cons_zero, List.set_cons_succ])
  refine any_take (i := 6) (v := ?_) rfl (by kernel_rfl) (by kernel_rfl) (by kernel_rfl) (by exact fun _ _ _ h => h) (by rfl) ?_ hS ?_
  rotate_left
  · ((intro w hSw; have y0 := blk_at hSw.1 0; have y1 := blk_at hSw.1 1; have y2 := blk_at hSw.1 2; have z0 := blk_at hSw.2 0; have z2 := blk_at hSw.2 2; have z3 := blk_at hSw.2 3; simp only [List.getElem?_cons_zero, List.getElem?_cons_succ] at y0 y1 y2 z0 z2 z3; clear hSw; go_simp) <;> with_reducible rfl)
  (try simp only [Act.put, List.setIfInBounds_toArray, List.set_cons_zero, List.set_cons_succ])
  refine any_take (i := 7) (v := ?_) rfl (by kernel_rfl) (by kernel_rfl) (by kernel_rfl) (by exact fun _ _ _ h => h) (by rfl) ?_ hS ?_
  rotate_left
  · ((intro w hSw; have y0 := blk_at hSw.1 0; have y1 := blk_at hSw.1 1; have y2 := blk_at hSw.1 2; have z0 := blk_at hSw.2 0; have z2 := blk_at hSw.2 2; have z3 := blk_at hSw.2 3; simp only [List.getElem?_cons_zero, List.getElem?_cons_succ] at y0 y1 y2 z0 z2 z3; clear hSw; go_simp) <;> with_reducible rfl)
  (try simp only [Act.put, List.setIfInBounds_toArray, List.set_cons_zero, List.set_cons_succ])
  refine any_take (i := 8) (v := ?_) rfl (by kernel_rfl) (by kernel_rfl) (by kernel_rfl) (by exact fun _ _ _ h => h) (by rfl) ?_ hS ?_
  rotate_left
  · ((intro w hSw; have y0 := blk_at hSw.1 0; have y1 := blk_at hSw.1 1; have y2 := blk_at hSw.1 2; have z0 := blk_at hSw.2 0; have z2 := blk_at hSw.2 2; have z3 := blk_at hSw.2 3; simp only [List.getElem?_cons_zero, List.getElem?_cons_succ] at y0 y1 y2 z0 z2 z3; clear hSw; go_simp) <;> with_reducible rfl)
  (try simp only [Act.put, List.setIfInBounds_toArray, List.set_cons_zero, List.set_cons_succ])
  refine any_take (i := 9) (v := ?_) rfl (by kernel_rfl) (by kernel_rfl) (by kernel_rfl) (by exact fun _ _ _ h => h) (by rfl) ?_ hS ?_
  rotate_left
  · ((intro w hSw; have y0 := blk_at hSw.1 0; have y1 := blk_at hSw.1 1; have y2 := blk_at hSw.1 2; have z0 := blk_at hSw.2 0; have z2 := blk_at hSw.2 2; have z3 := blk_at hSw.2 3; simp only [List.getElem?_cons_zero, List.getElem?_cons_succ] at y0 y1 y2 z0 z2 z3; clear hSw; go_simp) <;> with_reducible rfl)
  (try simp only [Act.put, List.setIfInBounds_toArray, List.set_cons_zero, List.set_cons_succ])
  refine any_take (i := 10) (v := ?_) rfl (by kernel_rfl) (by kernel_rfl) (by kernel_rfl) (by exact fun _ _ _ h => h) (by rfl) ?_ hS ?_
  rotate_left
  · ((intro w hSw; have y0 := blk_at hSw.1 0; have y1 := blk_at hSw.1 1; have y2 := blk_at hSw.1 2; have z0 := blk_at hSw.2 0; have z2 := blk_at hSw.2 2; have z3 := blk_at hSw.2 3; simp only [List.getElem?_cons_zero, List.getElem?_cons_succ] at y0 y1 y2 z0 z2 z3; clear hSw; go_simp) <;> with_reducible rfl)
  (try simp only [Act.put, List.setIfInBounds_toArray, List.set_cons_zero, List.set_cons_succ])
  refine any_take (i := 11) (v := ?_) rfl (by kernel_rfl) (by kernel_rfl) (by kernel_rfl) (by exact fun _ _ _ h => h) (by rfl) ?_ hS ?_
  rotate_left
  · ((intro w hSw; have y0 := blk_at hSw.1 0; have y1 := blk_at hSw.1 1; have y2 := blk_at hSw.1 2; have z0 := blk_at hSw.2 0; have z2 := blk_at hSw.2 2; have z3 := blk_at hSw.2 3; simp only [List.getElem?_cons_zero, List.getElem?_cons_succ] at y0 y1 y2 z0 z2 z3; clear hSw; go_simp) <;> with_reducible rfl)
  (try simp only [Act.put, List.setIfInBounds_toArray, List.set_cons_zero, List.set_cons_succ])
  refine any_take (i := 12) (v := ?_) rfl (by kernel_rfl) (by kernel_rfl) (by kernel_rfl) (by exact fun _ _ _ h => h) (by rfl) ?_ hS ?_
  rotate_left
  · ((intro w hSw; have y0 := blk_at hSw.1 0; have y1 := blk_at hSw.1 1; have y2 := blk_at hSw.1 2; have z0 := blk_at hSw.2 0; have z2 := blk_at hSw.2 2; have z3 := blk_at hSw.2 3; simp only [List.getElem?_cons_zero, List.getElem?_cons_succ] at y0 y1 y2 z0 z2 z3; clear hSw; go_simp) <;> with_reducible rfl)
  (try simp only [Act.put, List.setIfInBounds_toArray, List.set_cons_zero, List.set_cons_succ])
  refine any_take (i := 13) (v := ?_) rfl (by kernel_rfl) (by kernel_rfl) (by kernel_rfl) (by exact fun _ _ _ h => h) (by rfl) ?_ hS ?_
  rotate_left
  · ((intro w hSw; have y0 := blk_at hSw.1 0; have y1 := blk_at hSw.1 1; have y2 := blk_at hSw.1 2; have z0 := blk_at hSw.2 0; have z2 := blk_at hSw.2 2; have z3 := blk_at hSw.2 3; simp only [List.getElem?_cons_zero, List.getElem?_cons_succ] at y0 y1 y2 z0 z2 z3; clear hSw; go_simp) <;> with_reducible rfl)
  (try simp only [Act.put, List.setIfInBounds_toArray, List.set_cons_zero, List.set_cons_succ])
  refine any_take (i := 14) (v := ?_) rfl (by kernel_rfl) (by kernel_rfl) (by kernel_rfl) (by exact fun _ _ _ h => h) (by rfl) ?_ hS ?_
  rotate_left
  · ((intro w hSw; have y0 := blk_at hSw.1 0; have y1 := blk_at hSw.1 1; have y2 := blk_at hSw.1 2; have z0 := blk_at hSw.2 0; have z2 := blk_at hSw.2 2; have z3 := blk_at hSw.2 3; simp only [List.getElem?_cons_zero, List.getElem?_cons_succ] at y0 y1 y2 z0 z2 z3; clear hSw; go_simp) <;> with_reducible rfl)
  (try simp only [Act.put, List.setIfInBounds_toArray, List.set_cons_zero, List.set_cons_succ])
  refine any_take (i := 15) (v := ?_) rfl (by kernel_rfl) (by kernel_rfl) (by kernel_rfl) (by exact fun _ _ _ h => h) (by rfl) ?_ hS ?_
  rotate_left
  · ((intro w hSw; have y0 := blk_at hSw.1 0; have y1 := blk_at hSw.1 1; have y2 := blk_at hSw.1 2; have z0 := blk_at hSw.2 0; have z2 := blk_at hSw.2 2; have z3 := blk_at hSw.2 3; simp only [List.getElem?_cons_zero, List.getElem?_cons_succ] at y0 y1 y2 z0 z2 z3; clear hSw; go_simp) <;> with_reducible rfl)
  (try simp only [Act.put, List.setIfInBounds_toArray, List.set_cons_zero, List.set_cons_succ])
  refine any_take (i := 16) (v := ?_) rfl (by kernel_rfl) (by kernel_rfl) (by kernel_rfl) (by exact fun _ _ _ h => h) (by rfl) ?_ hS ?_
  rotate_left
  · ((intro w hSw; have y0 := blk_at hSw.1 0; have y1 := blk_at hSw.1 1; have y2 := blk_at hSw.1 2; have z0 := blk_at hSw.2 0; have z2 := blk_at hSw.2 2; have z3 := blk_at hSw.2 3; simp only [List.getElem?_cons_zero, List.getElem?_cons_succ] at y0 y1 y2 z0 z2 z3; clear hSw; go_simp) <;> with_reducible rfl)
  (try simp only [Act.put, List.setIfInBounds_toArray, List.set_cons_zero, List.set_cons_succ])
  refine wpAnyH_done (by kernel_rfl) ?_ _
  clear hS
  have H6 : Hid _ := And.intro (H5.out.1.2.laterB (Below.refl _ _).drew) (below_then H5.out.2 (Below.refl _ _).drew)
  generalize w5.drew = w6 at *
  clear H5
  have z0 := blk_at H6.out.1 0
  have z1 := blk_at H6.out.1 1
  have z2 := blk_at H6.out.1 2
  have z3 := blk_at H6.out.1 3
  have z4 := blk_at H6.out.1 4
  simp only [List.getElem?_cons_zero, List.getElem?_cons_succ] at z0 z1 z2 z3 z4
  have NP : Hid _ := HPut.out _ H6.out.2
  clear HPut
  go_wp2_with fail
  clear z0 z1 z2 z3 z4 H6
  refine (Calls.mono NP.out) ?_
  rintro e w7 ⟨rfl, p', q1, qc, q2, q3, q4, q5⟩
  clear NP
  have y5 := blk_at q2.holds.blk 5
  have y6 := blk_frozen q2.holds.blk 5
  simp only [List.getElem?_cons_zero, List.getElem?_cons_succ] at y5
  rw [KS.out.2.1, ← had1] at y5
  rw [q1] at y5 y6
  have hno := q2.holds.ad
  rw [KS.out.2.1, ← had1] at hno
  have hbad : ad ≤ 1000000000 := by rw [had1]; exact hadm
  have NA : Hid _ := atAdd_any g 5 ad w7 y5 y6 ⟨hno, hbad⟩
  have F : Hid _ := add_step2 KS.out.1 q3 q2 q4 q5
  rw [q1, KS.out.2.1, ← had1] at F
  have F2 : Hid _ := And.intro q1 (And.intro F.out qc)
  clear y5 y6 F q3 q4 q5 hno hbad had1 qc
  go_wp2_with fail
  refine (Calls.mono NA.out) ?_
  rintro e _ ⟨rfl, rfl⟩
  clear NA
  go_wp2
  go_ret
  exact ⟨rfl, p', by rw [F2.out.1]; exact HGg.out.1, F2.out.2.2, by have := F2.out.2.1; rw [KS.out.2.2] at this; exact this⟩

set_option maxHeartbeats 8000000 in
theorem add_new2 (a : Option Addr) (cap : Nat) (l : List (BitVec 8)) (p : CQl) (m : CR) (w : World) (h : (cqOb p m).Ok w) (hcl : p.cl = false) (hle : l.length ≤ cap) (hr : Row w a l) (hn : a = none → cap = 0) (hlen : l.length ≤ 140737488351232) (hE : dcE l = 0) (id s : Int) (i cnt : Nat) (d : List (BitVec 8)) (hR : dcR l = (id, (i : Int), (cnt : Int), s, d)) (hid : m.id < id) (hic : i < cnt) (hc2 : cnt ≤ 256) (hl0 : d.length ≤ 65536) (hadm0 : m.ad ≤ 1000000000) :
    Calls Try.prog 16 #[.pointer (some ⟨p.g, 0, none⟩), .slice a l.length cap] w fun e w' => e = .returned (.int .i64 0) ∧ ∃ p', p'.g = p.g ∧ p'.cl = false ∧ Step w w' (cqOb p m) (cqOb p' (addM (setPc (begM m id s cnt) i d))) := by
  have HD : Hid _ := decode_any a cap l w hle hr hn hlen
  have hG := h.holds.blk
  rw [hcl] at hG
  have y9 := blk_at hG 9
  simp only [List.getElem?_cons_zero, List.getElem?_cons_succ] at y9
  rw [hE, hR] at HD
  dsimp only at HD
  clear hr hn
  obtain ⟨g, hg⟩ : ∃ g, g = p.g := ⟨_, rfl⟩
  go_enter Try.func16, Try.ntmps16
  go_wp2_with fail
  clear y9
  refine (Calls.mono HD.out) ?_
  rintro r w1 ⟨x, c, rfl, ho, b1⟩
  have b2 : Below w1.heap.size w1 (w1.alloc (.cells #[.int .i64 id, .int .i64 i, .int .i64 cnt, .int .u32 s, .slice x d.length c] 56)) := (Below.refl _ _).alloc (Nat.le_refl _) _
  have hP := Blk.new' w1 56 [.int .i64 id, .int .i64 i, .int .i64 cnt, .int .u32 s, .slice x d.length c]
  have hPW : w1.heap.size ∉ (cqOb p m).W := fun hk => by have := h.lt _ (.inl hk); have := b1.size; omega
  have K2 : Hid _ := And.intro (h.later (below_then b1 b2)) (And.intro (below_then b1 b2) (And.intro ((ho.later b2) : Own _ w.heap.size _ d) (And.intro hP (And.intro h hPW))))
  clear HD ho b1 b2 hP h hG hPW
  go_upto_region 8 with fail
  obtain ⟨P, hPe⟩ : ∃ P, P = w1.heap.size := ⟨_, rfl⟩
  rw [← hPe] at K2 ⊢
  generalize (w1.alloc (.cells #[.int .i64 id, .int .i64 i, .int .i64 cnt, .int .u32 s, .slice x d.length c] 56)) = w2 at *
  clear hPe
  have HBe : Hid (∀ W, Below w2.heap.size w2 W → Calls Try.prog 36 #[.pointer (some ⟨g, 0, none⟩), .agg #[.int .i64 id, .int .i64 i, .int .i64 cnt, .int .u32 s, .slice x d.length c]] W fun e w' => e = .returned (.tuple #[]) ∧ ∃ p1, p1.g = g ∧ p1.cl = false ∧ (cqOb p1 (begM m id s cnt)).Ok w' ∧ Step w w' (cqOb p m) (cqOb p1 (begM m id s cnt)) ∧ Own w' w.heap.size (.slice x d.length c) d ∧ Blk w' P 56 [.int .i64 id, .int .i64 i, .int .i64 cnt, .int .u32 s, .slice x d.length c]) := fun W hW => by
    have hok := K2.out.1.later hW
    have := cqBegin_any p m id i cnt s x d.length c W hok ⟨by omega, hc2⟩
    rw [← hg] at this
    refine this.mono ?_
    rintro e w' ⟨rfl, p1, q1, qc, q2⟩
    refine ⟨rfl, p1, q1, qc.trans hcl, q2.ok, ⟨(tnd6 (below_then K2.out.2.1 hW)).trans (q2.turned.mono (fun k e => .inl e)), q2.ok, fun k hk => (q2.writes k hk).imp (fun e => e) (fun e => ?_), fun k hk => (q2.reads k hk).imp (fun e => e) (fun e => e.imp (fun e => e) (fun e => ?_))⟩, (K2.out.2.2.1.later hW).turned q2.turned (own_notW2 hok.holds (K2.out.2.2.1.later hW)), (K2.out.2.2.2.1.laterB hW).turned q2.turned K2.out.2.2.2.2.2⟩
    · have := (below_then K2.out.2.1 hW).size; omega
    · have := (below_then K2.out.2.1 hW).size; omega
  have hGs := K2.out.1.holds.blk
  obtain ⟨ta, hta⟩ := tv_is p m.ps.length
  rw [hta, ← hg, hcl] at hGs
  have H2 : Hid _ := And.intro (And.intro hGs K2.out.2.2.2.1) (Below.refl w2.heap.size w2)
  rw [← hg]
  obtain ⟨m1, hm1⟩ : ∃ m1, m1 = begM m id s cnt := ⟨_, rfl⟩
  rw [← hm1] at HBe
  have hadm : m1.ad ≤ 1000000000 := by rw [hm1]; exact hadm0
  have hl1 : lenOf m1.ps + d.length ≤ 1000000000000 := by rw [hm1, show lenOf (begM m id s cnt).ps = 0 from lenOf_none cnt]; omega
  have e0 : m1.id = id ∧ m1.s = s ∧ m1.ps.length = cnt := by rw [hm1]; exact ⟨rfl, rfl, by simp [begM]⟩
  have HM : Hid _ := And.intro hm1 e0
  have HGg : Hid _ := And.intro hg trivial
  clear hg
  clear K2 hm1 e0 hadm0 hGs hta
  generalize m.ps.length = N at H2
  generalize m.id = mid at H2 hid
  generalize m.s = ms at H2
  refine wp_region_held_drew (S := fun W => Blk W g 74 [.int .i64 mid, .int .u32 ms, .slice ta N N, p.dv m.ps, .int .i64 (lenOf m.ps), .int .i64 m.ad, p.c6, .int .i32 0, .int .u32 0, .bool false] ∧ Blk W P 56 [.int .i64 id, .int .i64 i, .int .i64 cnt, .int .u32 s, .slice x d.length c]) (by kernel_rfl) (⟨H2.out.1.1.laterB (Below.refl _ _).drew, H2.out.1.2.laterB (Below.refl _ _).drew⟩) (fun hS => ?_)
  refine any_take (i := 0) (v := ?_) rfl (by kernel_rfl) (by kernel_rfl) (by kernel_rfl) (by exact fun _ _ _ h => h) (by rfl) ?_ hS ?_
  rotate_left
  · ((intro w hSw; have y0 := blk_at hSw.1 0; have y1 := blk_at hSw.1 1; have y2 := blk_at hSw.1 2; have z0 := blk_at hSw.2 0; have z2 := blk_at hSw.2 2; have z3 := blk_at hSw.2 3; simp only [List.getElem?_cons_zero, List.getElem?_cons_succ] at y0 y1 y2 z0 z2 z3; clear hSw; go_simp) <;> with_reducible rfl)
  (try simp only [Act.put, List.setIfInBounds_toArray, List.set_cons_zero, List.set_cons_succ])
  refine any_take (i := 1) (v := ?_) rfl (by kernel_rfl) (by kernel_rfl) (by kernel_rfl) (by exact fun _ _ _ h => h) (by rfl) ?_ hS ?_
  rotate_left
  · ((intro w hSw; have y0 := blk_at hSw.1 0; have y1 := blk_at hSw.1 1; have y2 := blk_at hSw.1 2; have z0 := blk_at hSw.2 0; have z2 := blk_at hSw.2 2; have z3 := blk_at hSw.2 3; simp only [List.getElem?_cons_zero, List.getElem?_cons_succ] at y0 y1 y2 z0 z2 z3; clear hSw; go_simp) <;> with_reducible rfl)
  (try simp only [Act.put, List.setIfInBounds_toArray, List.set_cons_zero, List.set_cons_succ])
  refine any_take (i := 2) (v := ?_) rfl (by kernel_rfl) (by kernel_rfl) (by kernel_rfl) (by exact fun _ _ _ h => h) (by rfl) ?_ hS ?_
  rotate_left
  · ((intro w hSw; have y0 := blk_at hSw.1 0; have y1 := blk_at hSw.1 1; have y2 := blk_at hSw.1 2; have z0 := blk_at hSw.2 0; have z2 := blk_at hSw.2 2; have z3 := blk_at hSw.2 3; simp only [List.getElem?_cons_zero, List.getElem?_cons_succ] at y0 y1 y2 z0 z2 z3; clear hSw; go_simp) <;> with_reducible rfl)
  (try simp only [Act.put, List.setIfInBounds_toArray, List.set_cons_zero, List.set_cons_succ])
  refine any_take (i := 3) (v := ?_) rfl (by kernel_rfl) (by kernel_rfl) (by kernel_rfl) (by exact fun _ _ _ h => h) (by rfl) ?_ hS ?_
  rotate_left
  · ((intro w hSw; have y0 := blk_at hSw.1 0; have y1 := blk_at hSw.1 1; have y2 := blk_at hSw.1 2; have z0 := blk_at hSw.2 0; have z2 := blk_at hSw.2 2; have z3 := blk_at hSw.2 3; simp only [List.getElem?_cons_zero, List.getElem?_cons_succ] at y0 y1 y2 z0 z2 z3; clear hSw; go_simp) <;> with_reducible rfl)
  (try simp only [Act.put, List.setIfInBounds_toArray, List.set_cons_zero, List.set_cons_succ])
  refine any_take (i := 4) (v := ?_) rfl (by kernel_rfl) (by kernel_rfl) (by kernel_rfl) (by exact fun _ _ _ h => h) (by rfl) ?_ hS ?_
  rotate_left
  · ((intro w hSw; have y0 := blk_at hSw.1 0; have y1 := blk_at hSw.1 1; have y2 := blk_at hSw.1 2; have z0 := blk_at hSw.2 0; have z2 := blk_at hSw.2 2; have z3 := blk_at hSw.2 3; simp only [List.getElem?_cons_zero, List.getElem?_cons_succ] at y0 y1 y2 z0 z2 z3; clear hSw; go_simp) <;> with_reducible rfl)
  (try simp only [Act.put, List.setIfInBounds_toArray, List.set_cons_zero, List.set_cons_succ])
  refine any_take (i := 5) (v := ?_) rfl (by kernel_rfl) (by kernel_rfl) (by kernel_rfl) (by exact fun _ _ _ h => h) (by rfl) ?_ hS ?_
  rotate_left
  · ((intro w hSw; have y0 := blk_at hSw.1 0; have y1 := blk_at hSw.1 1; have y2 := blk_at hSw.1 2; have z0 := blk_at hSw.2 0; have z2 := blk_at hSw.2 2; have z3 := blk_at hSw.2 3; simp only [List.getElem?_cons_zero, List.getElem?_cons_succ] at y0 y1 y2 z0 z2 z3; clear hSw; go_simp) <;> with_reducible rfl)
  (try simp only [Act.put, List.setIfInBounds_toArray, List.set_cons_zero, List.set_cons_succ])
  refine any_take (i := 6) (v := ?_) rfl (by kernel_rfl) (by kernel_rfl) (by kernel_rfl) (by exact fun _ _ _ h => h) (by rfl) ?_ hS ?_
  rotate_left
  · ((intro w hSw; have y0 := blk_at hSw.1 0; have y1 := blk_at hSw.1 1; have y2 := blk_at hSw.1 2; have z0 := blk_at hSw.2 0; have z2 := blk_at hSw.2 2; have z3 := blk_at hSw.2 3; simp only [List.getElem?_cons_zero, List.getElem?_cons_succ] at y0 y1 y2 z0 z2 z3; clear hSw; go_simp) <;> with_reducible rfl)
  (try simp only [Act.put, List.setIfInBounds_toArray, List.set_cons_zero, List.set_cons_succ])
  refine wpAnyH_done (by kernel_rfl) ?_ _
  clear hS
  have H3 : Hid _ := And.intro (H2.out.1.2.laterB (Below.refl _ _).drew) (below_then H2.out.2 (Below.refl _ _).drew)
  generalize w2.drew = w3 at *
  clear H2 ta
  have z0 := blk_at H3.out.1 0
  have z1 := blk_at H3.out.1 1
  have z2 := blk_at H3.out.1 2
  have z3 := blk_at H3.out.1 3
  have z4 := blk_at H3.out.1 4
  simp only [List.getElem?_cons_zero, List.getElem?_cons_succ] at z0 z1 z2 z3 z4
  have NB : Hid _ := HBe.out _ H3.out.2
  clear HBe
  go_wp2_with fail
  clear z0 z1 z2 z3 z4 H3
  refine (Calls.mono NB.out) ?_
  rintro e w4 ⟨rfl, p1, hp1, hpc, k1, k2, k3, k4⟩
  have K4 : Hid _ := And.intro k1 (And.intro k2 (And.intro k3 k4))
  clear k1 k2 k3 k4 NB
  have hm1 := HM.out.1
  have e1 : m1.id = id ∧ m1.s = s ∧ m1.ps.length = cnt ∧ p1.g = g ∧ p1.cl = false := ⟨HM.out.2.1, HM.out.2.2.1, HM.out.2.2.2, hp1, hpc⟩
  have hGb := K4.out.1.holds.blk
  obtain ⟨ta, hta⟩ := tv_is p1 m1.ps.length
  rw [hta, e1.1, e1.2.1, e1.2.2.1, e1.2.2.2.1, e1.2.2.2.2] at hGb
  have HPut : Hid (∀ W, Below w4.heap.size w4 W → Calls Try.prog 37 #[.pointer (some ⟨g, 0, none⟩), .agg #[.int .i64 id, .int .i64 i, .int .i64 cnt, .int .u32 s, .slice x d.length c]] W fun e w' => e = .returned (.tuple #[]) ∧ ∃ p', p'.g = g ∧ p'.cl = false ∧ (cqOb p' (setPc m1 i d)).Ok w' ∧ Turned (· ∈ (cqOb p1 m1).W) w4 w' ∧ (∀ k ∈ (cqOb p' (setPc m1 i d)).W, k ∈ (cqOb p1 m1).W) ∧ ∀ k ∈ (cqOb p' (setPc m1 i d)).V, k ∈ (cqOb p1 m1).V ∨ w.heap.size ≤ k) := fun W hW => by
    have hok := K4.out.1.later hW
    have hown := K4.out.2.2.1.later hW
    have := cqPut_any p1 m1 id i cnt s x c d W hok (by rw [e1.2.2.1]; exact hic) hl1 (hown.lower (Nat.zero_le _)) (own_notW2 hok.holds hown)
    rw [e1.2.2.2.1] at this
    refine this.mono ?_
    rintro e w' ⟨rfl, p', q1, qc, q2, q3, q4, q5⟩
    refine ⟨rfl, p', q1, qc.trans e1.2.2.2.2, q2, (tnd6 hW).trans (q3.mono (fun k e => .inl e)), q4, fun k hk => (q5 k hk).imp (fun e => e) (fun e => ?_)⟩
    exact (World.ownsRow.lt hown k e).1
  have H4 : Hid _ := And.intro (And.intro hGb K4.out.2.2.2) (Below.refl w4.heap.size w4)
  have KS : Hid _ := And.intro K4.out.2.1 (And.intro (show (setPc m1 i d).ad = m1.ad from setPc_ad m1 i d) hm1)
  clear K4 hGb hta hl1 e1 hm1
  generalize p1.dv m1.ps = DV at *
  generalize p1.c6 = K6 at *
  generalize lenOf m1.ps = len at *
  obtain ⟨ad, had1⟩ : ∃ ad, ad = m1.ad := ⟨_, rfl⟩
  rw [← had1] at H4
  go_upto_region 10 with fail
  refine wp_region_held_drew (S := fun W => Blk W g 74 [.int .i64 id, .int .u32 s, .slice ta cnt cnt, DV, .int .i64 len, .int .i64 ad, K6, .int .i32 0, .int .u32 0, .bool false] ∧ Blk W P 56 [.int .i64 id, .int .i64 i, .int .i64 cnt, .int .u32 s, .slice x d.length c]) (by kernel_rfl) (⟨H4.out.1.1.laterB (Below.refl _ _).drew, H4.out.1.2.laterB (Below.refl _ _).drew⟩) (fun hS => ?_)
  refine any_take (i := 0) (v := ?_) rfl (by kernel_rfl) (by kernel_rfl) (by kernel_rfl) (by exact fun _ _ _ h => h) (by rfl) ?_ hS ?_
  rotate_left
  · ((intro w hSw; have y0 := blk_at hSw.1 0; have y1 := blk_at hSw.1 1; have y2 := blk_at hSw.1 2; have z0 := blk_at hSw.2 0; have z2 := blk_at hSw.2 2; have z3 := blk_at hSw.2 3; simp only [List.getElem?_cons_zero, List.getElem?_cons_succ] at y0 y1 y2 z0 z2 z3; clear hSw; go_simp) <;> with_reducible rfl)
  (try simp only [Act.put, List.setIfInBounds_toArray, List.set_cons_zero, List.set_cons_succ])
  refine any_take (i := 1) (v := ?_) rfl (by kernel_rfl) (by kernel_rfl) (by kernel_rfl) (by exact fun _ _ _ h => h) (by rfl) ?_ hS ?_
  rotate_left
  · ((intro w hSw; have y0 := blk_at hSw.1 0; have y1 := blk_at hSw.1 1; have y2 := blk_at hSw.1 2; have z0 := blk_at hSw.2 0; have z2 := blk_at hSw.2 2; have z3 := blk_at hSw.2 3; simp only [List.getElem?_cons_zero, List.getElem?_cons_succ] at y0 y1 y2 z0 z2 z3; clear hSw; go_simp) <;> with_reducible rfl)
  (try simp only [Act.put, List.setIfInBounds_toArray, List.set_cons_zero, List.set_cons_succ])
  refine any_take (i := 2) (v := ?_) rfl (by kernel_rfl) (by kernel_rfl) (by kernel_rfl) (by exact fun _ _ _ h => h) (by rfl) ?_ hS ?_
  rotate_left
  · ((intro w hSw; have y0 := blk_at hSw.1 0; have y1 := blk_at hSw.1 1; have y2 := blk_at hSw.1 2; have z0 := blk_at hSw.2 0; have z2 := blk_at hSw.2 2; have z3 := blk_at hSw.2 3; simp only [List.getElem?_cons_zero, List.getElem?_cons_succ] at y0 y1 y2 z0 z2 z3; clear hSw; go_simp) <;> with_reducible rfl)
  (try simp only [Act.put, List.setIfInBounds_toArray, List.set_cons_zero, List.set_cons_succ])
  refine any_take (i := 3) (v := ?_) rfl (by kernel_rfl) (by kernel_rfl) (by kernel_rfl) (by exact fun _ _ _ h => h) (by rfl) ?_ hS ?_
  rotate_left
  · ((intro w hSw; have y0 := blk_at hSw.1 0; have y1 := blk_at hSw.1 1; have y2 := blk_at hSw.1 2; have z0 := blk_at hSw.2 0; have z2 := blk_at hSw.2 2; have z3 := blk_at hSw.2 3; simp only [List.getElem?_cons_zero, List.getElem?_cons_succ] at y0 y1 y2 z0 z2 z3; clear hSw; go_simp) <;> with_reducible rfl)
  (try simp only [Act.put, List.setIfInBounds_toArray, List.set_cons_zero, List.set_cons_succ])
  refine any_take (i := 4) (v := ?_) rfl (by kernel_rfl) (by kernel_rfl) (by kernel_rfl) (by exact fun _ _ _ h => h) (by rfl) ?_ hS ?_
  rotate_left
  · ((intro w hSw; have y0 := blk_at hSw.1 0; have y1 := blk_at hSw.1 1; have y2 := blk_at hSw.1 2; have z0 := blk_at hSw.2 0; have z2 := blk_at hSw.2 2; have z3 := blk_at hSw.2 3; simp only [List.getElem?_cons_zero, List.getElem?_cons_succ] at y0 y1 y2 z0 z2 z3; clear hSw; go_simp) <;> with_reducible rfl)
  (try simp only [Act.put, List.setIfInBounds_toArray, List.set_cons_zero, List.set_cons_succ])
  refine any_take (i := 5) (v := ?_) rfl (by kernel_rfl) (by kernel_rfl) (by kernel_rfl) (by exact fun _ _ _ h => h) (by rfl) ?_ hS ?_
  rotate_left
  · ((intro w hSw; have y0 := blk_at hSw.1 0; have y1 := blk_at hSw.1 1; have y2 := blk_at hSw.1 2; have z0 := blk_at hSw.2 0; have z2 := blk_at hSw.2 2; have z3 := blk_at hSw.2 3; simp only [List.getElem?_cons_zero, List.getElem?_cons_succ] at y0 y1 y2 z0 z2 z3; clear hSw; go_simp) <;> with_reducible rfl)
  (try simp only [Act.put, List.setIfInBounds_toArray, List.set_cons_zero, List.set_cons_succ])
  refine any_take (i := 6) (v := ?_) rfl (by kernel_rfl) (by kernel_rfl) (by kernel_rfl) (by exact fun _ _ _ h => h) (by rfl) ?_ hS ?_
  rotate_left
  · ((intro w hSw; have y0 := blk_at hSw.1 0; have y1 := blk_at hSw.1 1; have y2 := blk_at hSw.1 2; have z0 := blk_at hSw.2 0; have z2 := blk_at hSw.2 2; have z3 := blk_at hSw.2 3; simp only [List.getElem?_cons_zero, List.getElem?_cons_succ] at y0 y1 y2 z0 z2 z3; clear hSw; go_simp) <;> with_reducible rfl)
  (try simp only [Act.put, List.setIfInBounds_toArray, List.set_cons_zero, List.set_cons_succ])
  refine wpAnyH_done (by kernel_rfl) ?_ _
  clear hS
  have H5 : Hid _ := And.intro (And.intro (H4.out.1.1.laterB (Below.refl _ _).drew) (H4.out.1.2.laterB (Below.refl _ _).drew)) (below_then H4.out.2 (Below.refl _ _).drew)
  generalize w4.drew = w5 at *
  clear H4
  go_upto_region 12 with fail
  refine wp_region_held_drew (S := fun W => Blk W g 74 [.int .i64 id, .int .u32 s, .slice ta cnt cnt, DV, .int .i64 len, .int .i64 ad, K6, .int .i32 0, .int .u32 0, .bool false] ∧ Blk W P 56 [.int .i64 id, .int .i64 i, .int .i64 cnt, .int .u32 s, .slice x d.length c]) (by kernel_rfl) (⟨H5.out.1.1.laterB (Below.refl _ _).drew, H5.out.1.2.laterB (Below.refl _ _).drew⟩) (fun hS => ?_)
  refine any_take (i := 0) (v := ?_) rfl (by kernel_rfl) (by kernel_rfl) (by kernel_rfl) (by exact fun _ _ _ h => h) (by rfl) ?_ hS ?_
  rotate_left
  · ((intro w hSw; have y0 := blk_at hSw.1 0; have y1 := blk_at hSw.1 1; have y2 := blk_at hSw.1 2; have z0 := blk_at hSw.2 0; have z2 := blk_at hSw.2 2; have z3 := blk_at hSw.2 3; simp only [List.getElem?_cons_zero, List.getElem?_cons_succ] at y0 y1 y2 z0 z2 z3; clear hSw; go_simp) <;> with_reducible rfl)
  (try simp only [Act.put, List.setIfInBounds_toArray, List.set_cons_zero, List.set_cons_succ])
  refine any_take (i := 1) (v := ?_) rfl (by kernel_rfl) (by kernel_rfl) (by kernel_rfl) (by exact fun _ _ _ h => h) (by rfl) ?_ hS ?_
  rotate_left
  · ((intro w hSw; have y0 := blk_at hSw.1 0; have y1 := blk_at hSw.1 1; have y2 := blk_at hSw.1 2; have z0 := blk_at hSw.2 0; have z2 := blk_at hSw.2 2; have z3 := blk_at hSw.2 3; simp only [List.getElem?_cons_zero, List.getElem?_cons_succ] at y0 y1 y2 z0 z2 z3; clear hSw; go_simp) <;> with_reducible rfl)
  (try simp only [Act.put, List.setIfInBounds_toArray, List.set_cons_zero, List.set_cons_succ])
  refine any_take (i := 2) (v := ?_) rfl (by kernel_rfl) (by kernel_rfl) (by kernel_rfl) (by exact fun _ _ _ h => h) (by rfl) ?_ hS ?_
  rotate_left
  · ((intro w hSw; have y0 := blk_at hSw.1 0; have y1 := blk_at hSw.1 1; have y2 := blk_at hSw.1 2; have z0 := blk_at hSw.2 0; have z2 := blk_at hSw.2 2; have z3 := blk_at hSw.2 3; simp only [List.getElem?_cons_zero, List.getElem?_cons_succ] at y0 y1 y2 z0 z2 z3; clear hSw; go_simp) <;> with_reducible rfl)
  (try simp only [Act.put, List.setIfInBounds_toArray, List.set_cons_zero, List.set_cons_succ])
  refine any_take (i := 3) (v := ?_) rfl (by kernel_rfl) (by kernel_rfl) (by kernel_rfl) (by exact fun _ _ _ h => h) (by rfl) ?_ hS ?_
  rotate_left
  · ((intro w hSw; have y0 := blk_at hSw.1 0; have y1 := blk_at hSw.1 1; have y2 := blk_at hSw.1 2; have z0 := blk_at hSw.2 0; have z2 := blk_at hSw.2 2; have z3 := blk_at hSw.2 3; simp only [List.getElem?_cons_zero, List.getElem?_cons_succ] at y0 y1 y2 z0 z2 z3; clear hSw; go_simp) <;> with_reducible rfl)
  (try simp only [Act.put, List.setIfInBounds_toArray, List.set_cons_zero, List.set_cons_succ])
  refine any_take (i := 4) (v := ?_) rfl (by kernel_rfl) (by kernel_rfl) (by kernel_rfl) (by exact fun _ _ _ h => h) (by rfl) ?_ hS ?_
  rotate_left
  · ((intro w hSw; have y0 := blk_at hSw.1 0; have y1 := blk_at hSw.1 1; have y2 := blk_at hSw.1 2; have z0 := blk_at hSw.2 0; have z2 := blk_at hSw.2 2; have z3 := blk_at hSw.2 3; simp only [List.getElem?_cons_zero, List.getElem?_cons_succ] at y0 y1 y2 z0 z2 z3; clear hSw; go_simp) <;> with_reducible rfl)
  (try simp only [Act.put, List.setIfInBounds_toArray, List.set_cons_zero, List.set_cons_succ])
  refine any_take (i := 5) (v := ?_) rfl (by kernel_rfl) (by kernel_rfl) (by kernel_rfl) (by exact fun _ _ _ h => h) (by rfl) ?_ hS ?_
  rotate_left
  · ((intro w hSw; have y0 := blk_at hSw.1 0; have y1 := blk_at hSw.1 1; have y2 := blk_at hSw.1 2; have z0 := blk_at hSw.2 0; have z2 := blk_at hSw.2 2; have z3 := blk_at hSw.2 3; simp only [List.getElem?_cons_zero, List.getElem?_cons_succ] at y0 y1 y2 z0 z2 z3; clear hSw; go_simp) <;> with_reducible rfl)
  (try simp only [Act.put, List.setIfInBounds_toArray, List.set_cons_zero, List.set_cons_succ])
  refine any_take (i := 6) (v := ?_) rfl (by kernel_rfl) (by kernel_rfl) (by kernel_rfl) (by exact fun _ _ _ h => h) (by rfl) ?_ hS ?_
  rotate_left
  · ((intro w hSw; have y0 := blk_at hSw.1 0; have y1 := blk_at hSw.1 1; have y2 := blk_at hSw.1 2; have z0 := blk_at hSw.2 0; have z2 := blk_at hSw.2 2; have z3 := blk_at hSw.2 3; simp only [List.getElem?_cons_zero, List.getElem?_cons_succ] at y0 y1 y2 z0 z2 z3; clear hSw; go_simp) <;> with_reducible rfl)
  (try simp only [Act.put, List.setIfInBounds_toArray, List.set_cons_zero, List.set_cons_succ])
  refine any_take (i := 7) (v := ?_) rfl (by kernel_rfl) (by kernel_rfl) (by kernel_rfl) (by exact fun _ _ _ h => h) (by rfl) ?_ hS ?_
  rotate_left
  · ((intro w hSw; have y0 := blk_at hSw.1 0; have y1 := blk_at hSw.1 1; have y2 := blk_at hSw.1 2; have z0 := blk_at hSw.2 0; have z2 := blk_at hSw.2 2; have z3 := blk_at hSw.2 3; simp only [List.getElem?_cons_zero, List.getElem?_cons_succ] at y0 y1 y2 z0 z2 z3; clear hSw; go_simp) <;> with_reducible rfl)
  (try simp only [Act.put, List.setIfInBounds_toArray, List.set_cons_zero, List.set_cons_succ])
  refine any_take (i := 8) (v := ?_) rfl (by kernel_rfl) (by kernel_rfl) (by kernel_rfl) (by exact fun _ _ _ h => h) (by rfl) ?_ hS ?_
  rotate_left
  · ((intro w hSw; have y0 := blk_at hSw.1 0; have y1 := blk_at hSw.1 1; have y2 := blk_at hSw.1 2; have z0 := blk_at hSw.2 0; have z2 := blk_at hSw.2 2; have z3 := blk_at hSw.2 3; simp only [List.getElem?_cons_zero, List.getElem?_cons_succ] at y0 y1 y2 z0 z2 z3; clear hSw; go_simp) <;> with_reducible rfl)
  (try simp only [Act.put, List.setIfInBounds_toArray, List.set_cons_zero, List.set_cons_succ])
  refine any_take (i := 9) (v := ?_) rfl (by kernel_rfl) (by kernel_rfl) (by kernel_rfl) (by exact fun _ _ _ h => h) (by rfl) ?_ hS ?_
  rotate_left
  · ((intro w hSw; have y0 := blk_at hSw.1 0; have y1 := blk_at hSw.1 1; have y2 := blk_at hSw.1 2; have z0 := blk_at hSw.2 0; have z2 := blk_at hSw.2 2; have z3 := blk_at hSw.2 3; simp only [List.getElem?_cons_zero, List.getElem?_cons_succ] at y0 y1 y2 z0 z2 z3; clear hSw; go_simp) <;> with_reducible rfl)
  (try simp only [Act.put, List.setIfInBounds_toArray, List.set_cons_zero, List.set_cons_succ])
  refine any_take (i := 10) (v := ?_) rfl (by kernel_rfl) (by kernel_rfl) (by kernel_rfl) (by exact fun _ _ _ h => h) (by rfl) ?_ hS ?_
  rotate_left
  · ((intro w hSw; have y0 := blk_at hSw.1 0; have y1 := blk_at hSw.1 1; have y2 := blk_at hSw.1 2; have z0 := blk_at hSw.2 0; have z2 := blk_at hSw.2 2; have z3 := blk_at hSw.2 3; simp only [List.getElem?_cons_zero, List.getElem?_cons_succ] at y0 y1 y2 z0 z2 z3; clear hSw; go_simp) <;> with_reducible rfl)
  (try simp only [Act.put, List.setIfInBounds_toArray, List.set_cons_zero, List.set_cons_succ])
  refine any_take (i := 11) (v := ?_) rfl (by kernel_rfl) (by kernel_rfl) (by kernel_rfl) (by exact fun _ _ _ h => h) (by rfl) ?_ hS ?_
  rotate_left
  · ((intro w hSw; have y0 := blk_at hSw.1 0; have y1 := blk_at hSw.1 1; have y2 := blk_at hSw.1 2; have z0 := blk_at hSw.2 0; have z2 := blk_at hSw.2 2; have z3 := blk_at hSw.2 3; simp only [List.getElem?_cons_zero, List.getElem?_cons_succ] at y0 y1 y2 z0 z2 z3; clear hSw; go_simp) <;> with_reducible rfl)
  (try simp only [Act.put, List.setIfInBounds_toArray, List.set_cons_zero, List.set_cons_succ])
  refine any_take (i := 12) (v := ?_) rfl (by kernel_rfl) (by kernel_rfl) (by kernel_rfl) (by exact fun _ _ _ h => h) (by rfl) ?_ hS ?_
  rotate_left
  · ((intro w hSw; have y0 := blk_at hSw.1 0; have y1 := blk_at hSw.1 1; have y2 := blk_at hSw.1 2; have z0 := blk_at hSw.2 0; have z2 := blk_at hSw.2 2; have z3 := blk_at hSw.2 3; simp only [List.getElem?_cons_zero, List.getElem?_cons_succ] at y0 y1 y2 z0 z2 z3; clear hSw; go_simp) <;> with_reducible rfl)
  (try simp only [Act.put, List.setIfInBounds_toArray, List.set_cons_zero, List.set_cons_succ])
  refine any_take (i := 13) (v := ?_) rfl (by kernel_rfl) (by kernel_rfl) (by kernel_rfl) (by exact fun _ _ _ h => h) (by rfl) ?_ hS ?_
  rotate_left
  · ((intro w hSw; have y0 := blk_at hSw.1 0; have y1 := blk_at hSw.1 1; have y2 := blk_at hSw.1 2; have z0 := blk_at hSw.2 0; have z2 := blk_at hSw.2 2; have z3 := blk_at hSw.2 3; simp only [List.getElem?_cons_zero, List.getElem?_cons_succ] at y0 y1 y2 z0 z2 z3; clear hSw; go_simp) <;> with_reducible rfl)
  (try simp only [Act.put, List.setIfInBounds_toArray, List.set_cons_zero, List.set_cons_succ])
  refine any_take (i := 14) (v := ?_) rfl (by kernel_rfl) (by kernel_rfl) (by kernel_rfl) (by exact fun _ _ _ h => h) (by rfl) ?_ hS ?_
  rotate_left
  · ((intro w hSw; have y0 := blk_at hSw.1 0; have y1 := blk_at hSw.1 1; have y2 := blk_at hSw.1 2; have z0 := blk_at hSw.2 0; have z2 := blk_at hSw.2 2; have z3 := blk_at hSw.2 3; simp only [List.getElem?_cons_zero, List.getElem?_cons_succ] at y0 y1 y2 z0 z2 z3; clear hSw; go_simp) <;> with_reducible rfl)
  (try simp only [Act.put, List.setIfInBounds_toArray, List.set_cons_zero, List.set_cons_succ])
  refine any_take (i := 15) (v := ?_) rfl (by kernel_rfl) (by kernel_rfl) (by kernel_rfl) (by exact fun _ _ _ h => h) (by rfl) ?_ hS ?_
  rotate_left
  · ((intro w hSw; have y0 := blk_at hSw.1 0; have y1 := blk_at hSw.1 1; have y2 := blk_at hSw.1 2; have z0 := blk_at hSw.2 0; have z2 := blk_at hSw.2 2; have z3 := blk_at hSw.2 3; simp only [List.getElem?_cons_zero, List.getElem?_cons_succ] at y0 y1 y2 z0 z2 z3; clear hSw; go_simp) <;> with_reducible rfl)
  (try simp only [Act.put, List.setIfInBounds_toArray, List.set_cons_zero, List.set_cons_succ])
  refine any_take (i := 16) (v := ?_) rfl (by kernel_rfl) (by kernel_rfl) (by kernel_rfl) (by exact fun _ _ _ h => h) (by rfl) ?_ hS ?_
  rotate_left
  · ((intro w hSw; have y0 := blk_at hSw.1 0; have y1 := blk_at hSw.1 1; have y2 := blk_at hSw.1 2; have z0 := blk_at hSw.2 0; have z2 := blk_at hSw.2 2; have z3 := blk_at hSw.2 3; simp only [List.getElem?_cons_zero, List.getElem?_cons_succ] at y0 y1 y2 z0 z2 z3; clear hSw; go_simp) <;> with_reducible rfl)
  (try simp only [Act.put, List.setIfInBounds_toArray, List.set_cons_zero, List.set_cons_succ])
  refine wpAnyH_done (by kernel_rfl) ?_ _
  clear hS
  have H6 : Hid _ := And.intro (H5.out.1.2.laterB (Below.refl _ _).drew) (below_then H5.out.2 (Below.refl _ _).drew)
  generalize w5.drew = w6 at *
  clear H5
  have z0 := blk_at H6.out.1 0
  have z1 := blk_at H6.out.1 1
  have z2 := blk_at H6.out.1 2
  have z3 := blk_at H6.out.1 3
  have z4 := blk_at H6.out.1 4
  simp only [List.getElem?_cons_zero, List.getElem?_cons_succ] at z0 z1 z2 z3 z4
  have NP : Hid _ := HPut.out _ H6.out.2
  clear HPut
  go_wp2_with fail
  clear z0 z1 z2 z3 z4 H6
  refine (Calls.mono NP.out) ?_
  rintro e w7 ⟨rfl, p', q1, qc, q2, q3, q4, q5⟩
  clear NP
  have y5 := blk_at q2.holds.blk 5
  have y6 := blk_frozen q2.holds.blk 5
  simp only [List.getElem?_cons_zero, List.getElem?_cons_succ] at y5
  rw [KS.out.2.1, ← had1] at y5
  rw [q1] at y5 y6
  have hno := q2.holds.ad
  rw [KS.out.2.1, ← had1] at hno
  have hbad : ad ≤ 1000000000 := by rw [had1]; exact hadm
  have NA : Hid _ := atAdd_any g 5 ad w7 y5 y6 ⟨hno, hbad⟩
  have F : Hid _ := add_step2 KS.out.1 q3 q2 q4 q5
  rw [q1, KS.out.2.1, ← had1] at F
  have F2 : Hid _ := And.intro q1 (And.intro F.out qc)
  clear y5 y6 F q3 q4 q5 hno hbad had1 qc
  go_wp2_with fail
  refine (Calls.mono NA.out) ?_
  rintro e _ ⟨rfl, rfl⟩
  clear NA
  go_wp2
  go_ret
  exact ⟨rfl, p', by rw [F2.out.1]; exact HGg.out.1, F2.out.2.2, by have := F2.out.2.1; rw [KS.out.2.2] at this; exact this⟩

end Go.Proofs.Ytgonglbgejaffaa

/- Whole of a reader in whatever state. -/
namespace Go.Proofs.Ytgonglbgejaffaa
open Go.RowKit
set_option linter.unusedVariables false
set_option linter.unusedSimpArgs false
set_option maxRecDepth 4000

/-- the image is whole -/
def whB (m : CR) : Bool := !(m.id == 0) && (!ovB m.ps && (!miss m && decide (m.s = ((Crc.sum (flat m)).toNat : Int))))
def whL (m : CR) : List (BitVec 8) := if whB m = true then flat m else []
theorem wh_no {m : CR} (h : whB m = false) (w w' : World) (hb : Below w.heap.size w w') : ∃ z, Ending.returned (.tuple #[.slice none 0 0, .bool false]) = Ending.returned (.tuple #[z, .bool (whB m)]) ∧ Own w' w.heap.size z (whL m) ∧ Below w.heap.size w w' := by
  refine ⟨_, by rw [h], ?_, hb⟩
  unfold whL
  rw [h, if_neg (by decide)]
  exact Own.nil _ _
set_option maxHeartbeats 4000000 in
theorem cqWhole_any (p : CQl) (m : CR) (w : World) (h : (cqOb p m).Ok w) (hid : ¬ m.id = 0 → m.ps.length ≠ 0) (hn : m.ps.length ≤ 256) (hlb : lenOf m.ps ≤ 1000000000000) :
    Calls Try.prog 18 #[.pointer (some ⟨p.g, 0, none⟩)] w (fun e w' => ∃ z, e = .returned (.tuple #[z, .bool (whB m)]) ∧ Own w' w.heap.size z (whL m) ∧ Below w.heap.size w w') := by
  have hP := h.holds
  have hG := hP.blk
  by_cases hi : m.id = 0
  · have hw : whB m = false := by unfold whB; rw [hi]; rfl
    have HNo : Hid _ := wh_no hw w w (Below.refl _ _)
    obtain ⟨mid, hmid⟩ : ∃ x, x = m.id := ⟨_, rfl⟩
    rw [← hmid] at hG hi
    subst hi
    have y0 := blk_at hG 0
    have y2 := blk_at hG 2
    have y3 := blk_at hG 3
    have y4 := blk_at hG 4
    simp only [List.getElem?_cons_zero, List.getElem?_cons_succ] at y0 y2 y3 y4
    clear hP hG hid h hw y2 y3 y4 hmid
    generalize lenOf m.ps = len at *
    generalize p.g = g at *
    go_enter Try.func18, Try.ntmps18
    go_wp2_with fail
    go_ret2
    exact HNo.out
  have hne := hid hi
  have q2 : (m.id == 0) = false := by rw [beq_eq_false_iff_ne]; exact hi
  cases hov : ovB m.ps with
  | true =>
    have hw : whB m = false := by unfold whB; rw [hov, q2]; rfl
    have HNo : Hid _ := wh_no hw w w (Below.refl _ _)
    have hl : 65536 < lenOf m.ps := by unfold ovB at hov; exact of_decide_eq_true hov
    have q1 : (65536 : Int) < (lenOf m.ps : Int) := by omega
    have y0 := blk_at hG 0
    have y2 := blk_at hG 2
    have y3 := blk_at hG 3
    have y4 := blk_at hG 4
    simp only [List.getElem?_cons_zero, List.getElem?_cons_succ] at y0 y2 y3 y4
    clear hP hG hid h hw y2 y3 hov hl
    generalize lenOf m.ps = len at *
    generalize p.g = g at *
    generalize m.id = mid at *
    go_enter Try.func18, Try.ntmps18
    go_wp2_with fail
    go_ret2
    exact HNo.out
  | false =>
    have hl : lenOf m.ps ≤ 65536 := by unfold ovB at hov; have := of_decide_eq_false hov; omega
    unfold CQl.tv CQl.dv at hG
    rw [if_neg hne, if_neg (fun e => e.elim hne (fun e => by rw [hov] at e; cases e))] at hG
    have hT := hP.there hne
    have hTe : m.ps.map isB = (m.ps.map Option.isSome).map Value.bool := by rw [List.map_map]; rfl
    rw [hTe] at hT
    have HC : Hid _ := containsB_any p.t (m.ps.map Option.isSome) w hT (by rw [List.length_map]; omega)
    rw [List.length_map] at HC
    have hD := hP.data hne hov
    have q1 : (lenOf m.ps : Int) ≤ 65536 := by omega
    have q3 : ¬ (65536 : Int) < (lenOf m.ps : Int) := by omega
    cases hx : miss m with
    | true =>
      have hw : whB m = false := by unfold whB; rw [hov, q2, hx]; rfl
      have HNo : Hid _ := wh_no hw w w (Below.refl _ _)
      unfold miss at hx
      rw [hx] at HC
      have y0 := blk_at hG 0
      have y2 := blk_at hG 2
      have y3 := blk_at hG 3
      have y4 := blk_at hG 4
      simp only [List.getElem?_cons_zero, List.getElem?_cons_succ] at y0 y2 y3 y4
      clear y3 hP hG hid h hw hT hTe hD hx hov
      generalize lenOf m.ps = len at *
      generalize p.g = g at *
      generalize p.t = t at *
      generalize m.ps.length = N at *
      generalize m.id = mid at *
      go_enter Try.func18, Try.ntmps18
      go_wp2_with fail
      refine (Calls.mono HC.out) ?_
      rintro e _ ⟨rfl, rfl⟩
      clear HC
      go_wp2
      go_ret2
      exact HNo.out
    | false =>
      have hw0 : whB m = decide (m.s = ((Crc.sum (flat m)).toNat : Int)) := by unfold whB; rw [hov, q2, hx]; rfl
      unfold miss at hx
      rw [hx] at HC
      have HK : Hid _ := concat_any p.d (m.ps.map (fun o => o.getD [])) p.vs w hD (fun k hk => by
        have hk' : k < m.ps.length := by rw [List.length_map] at hk; exact hk
        obtain ⟨v, hv, ho⟩ := hP.each hov k m.ps[k] (List.getElem?_eq_getElem hk')
        exact ⟨v, hv, by rw [List.getElem_map]; exact ho⟩) (by rw [List.length_map]; omega) (by have := flat_len m; unfold flat at this; omega)
      rw [List.length_map, show (m.ps.map (fun o => o.getD [])).flatten = flat m from rfl] at HK
      have hfl := flat_len m
      have hfl2 : (flat m).length ≤ 65536 := by omega
      clear hfl
      have HG : Hid _ := And.intro hG trivial
      have y0 := blk_at hG 0
      have y2 := blk_at hG 2
      have y3 := blk_at hG 3
      have y4 := blk_at hG 4
      simp only [List.getElem?_cons_zero, List.getElem?_cons_succ] at y0 y2 y3 y4
      clear h hP hG hT hTe hD hx hov hid
      generalize lenOf m.ps = len at *
      generalize p.g = g at *
      generalize p.t = t at *
      generalize p.d = d at *
      generalize p.c6 = K6 at *
      generalize Value.bool p.cl = CL at *
      generalize m.ps.length = N at *
      generalize m.ad = ad at *
      have HW0 : Hid _ := hw0
      have HWL : Hid (whL m = if whB m = true then flat m else []) := (rfl : whL m = if whB m = true then flat m else [])
      clear hw0
      generalize whL m = WL at *
      generalize whB m = WB at *
      generalize m.id = mid at *
      generalize m.s = ms at *
      generalize flat m = F at *
      have hS0 := (Crc.sum F).isLt
      go_enter Try.func18, Try.ntmps18
      go_wp2_with fail
      refine (Calls.mono HC.out) ?_
      rintro e _ ⟨rfl, rfl⟩
      clear HC
      go_wp2_with fail
      refine (Calls.mono HK.out) ?_
      rintro e w2 ⟨z, rfl, o2, b2⟩
      obtain ⟨a, cap, rfl, g1, g2, g3, -, -⟩ := o2.open
      have HSu : Hid (∀ W, Below w2.heap.size w2 W → Calls Try.prog 28 #[.slice a F.length cap] W fun e w' => e = .returned (.int .u32 ((Crc.sum F).toNat : Int)) ∧ W = w') := fun W hW => by
        refine (sum_any a F.length cap F W rfl (by unfold maxLen; omega) (g3.later hW)).mono ?_
        rintro e w' ⟨e1, e2⟩
        exact ⟨e1, e2.symm⟩
      have H2 : Hid _ := And.intro (HG.out.1.laterB b2) (And.intro o2 b2)
      clear HK o2 b2 g1 g2 g3 y0 y2 y3 y4 HG
      go_upto_region 4 with fail
      generalize hSF : ((Crc.sum F).toNat : Int) = sf at *
      by_cases hs : ms = sf
      · subst hs
        refine wp_region_held_drew (S := fun W => Blk W g 74 [.int .i64 mid, .int .u32 ms, .slice (some ⟨t, 0, none⟩) N N, .slice (some ⟨d, 0, none⟩) N N, .int .i64 len, .int .i64 ad, K6, .int .i32 0, .int .u32 0, CL] ∧ Below w2.heap.size w2 W) (by kernel_rfl) (⟨H2.out.1.laterB (Below.refl _ _).drew, (Below.refl _ _).drew⟩) (fun hS => ?_)
        refine any_take (i := 0) (v := ?_) rfl (by kernel_rfl) (by kernel_rfl) (by kernel_rfl) (by exact fun _ _ _ h => h) (by rfl) ?_ hS ?_
        rotate_left
        · ((intro w hSw; have y1 := blk_at hSw.1 1; simp only [List.getElem?_cons_zero, List.getElem?_cons_succ] at y1; clear hSw; go_simp) <;> with_reducible rfl)
        (try simp only [Act.put, List.setIfInBounds_toArray, List.set_cons_zero, List.set_cons_succ])
        refine any_take (i := 2) (v := ?_) rfl (by kernel_rfl) (by kernel_rfl) (by kernel_rfl) (by exact fun _ _ _ h => h) (by rfl) ?_ hS ?_
        rotate_left
        · ((intro w hSw; have y1 := blk_at hSw.1 1; simp only [List.getElem?_cons_zero, List.getElem?_cons_succ] at y1; clear hSw; go_simp) <;> with_reducible rfl)
        (try simp only [Act.put, List.setIfInBounds_toArray, List.set_cons_zero, List.set_cons_succ])
        refine any_take (i := 3) (v := ?_) rfl (by kernel_rfl) (by kernel_rfl) (by kernel_rfl) (by exact fun _ _ _ h => h) (by rfl) ?_ hS ?_
        rotate_left
        · ((intro w hSw; have y1 := blk_at hSw.1 1; simp only [List.getElem?_cons_zero, List.getElem?_cons_succ] at y1; clear hSw; go_simp) <;> with_reducible rfl)
        (try simp only [Act.put, List.setIfInBounds_toArray, List.set_cons_zero, List.set_cons_succ])
        refine any_take (i := 4) (v := ?_) rfl (by kernel_rfl) (by kernel_rfl) (by kernel_rfl) (by exact fun _ _ _ h => h) (by rfl) ?_ hS ?_
        rotate_left
        · ((intro w hSw; have y1 := blk_at hSw.1 1; simp only [List.getElem?_cons_zero, List.getElem?_cons_succ] at y1; clear hSw; go_simp) <;> with_reducible rfl)
        (try simp only [Act.put, List.setIfInBounds_toArray, List.set_cons_zero, List.set_cons_succ])
        refine any_take (i := 5) (v := ?_) rfl (by kernel_rfl) (by kernel_rfl) (by kernel_rfl) (by exact fun _ _ _ h => h) (by rfl) ?_ hS ?_
        rotate_left
        · ((intro w hSw; have y1 := blk_at hSw.1 1; simp only [List.getElem?_cons_zero, List.getElem?_cons_succ] at y1; clear hSw; go_simp) <;> with_reducible rfl)
        (try simp only [Act.put, List.setIfInBounds_toArray, List.set_cons_zero, List.set_cons_succ])
        refine any_one (i := 1) rfl (by kernel_rfl) (fun K hK => ?_)
        go_simp
        refine (Calls.mono (HSu.out _ hS.2)) ?_
        rintro e _ ⟨rfl, rfl⟩
        go_wp2_with fail
        refine hK.out _ _ hS ?_
        clear hK K
        refine any_take (i := 6) (v := ?_) rfl (by kernel_rfl) (by kernel_rfl) (by kernel_rfl) (by exact fun _ _ _ h => h) (by rfl) ?_ hS ?_
        rotate_left
        · ((intro w hSw; have y1 := blk_at hSw.1 1; simp only [List.getElem?_cons_zero, List.getElem?_cons_succ] at y1; clear hSw; go_simp) <;> with_reducible rfl)
        (try simp only [Act.put, List.setIfInBounds_toArray, List.set_cons_zero, List.set_cons_succ])
        refine wpAnyH_done (by kernel_rfl) ?_ _
        have K2 : Hid _ := And.intro (H2.out.2.1.later (Below.refl _ _).drew) (below_then H2.out.2.2 (Below.refl _ _).drew)
        clear H2 hS HSu
        go_wp2
        go_ret2
        have e1 : WB = true := by rw [HW0.out]; simp
        have e2 := HWL.out
        rw [e1, if_pos rfl] at e2
        rw [e1, e2]
        exact ⟨_, rfl, K2.out⟩
      · have hs2 : (sf == ms) = false := by rw [beq_eq_false_iff_ne]; exact fun e => hs e.symm
        refine wp_region_held_drew (S := fun W => Blk W g 74 [.int .i64 mid, .int .u32 ms, .slice (some ⟨t, 0, none⟩) N N, .slice (some ⟨d, 0, none⟩) N N, .int .i64 len, .int .i64 ad, K6, .int .i32 0, .int .u32 0, CL] ∧ Below w2.heap.size w2 W) (by kernel_rfl) (⟨H2.out.1.laterB (Below.refl _ _).drew, (Below.refl _ _).drew⟩) (fun hS => ?_)
        refine any_take (i := 0) (v := ?_) rfl (by kernel_rfl) (by kernel_rfl) (by kernel_rfl) (by exact fun _ _ _ h => h) (by rfl) ?_ hS ?_
        rotate_left
        · ((intro w hSw; have y1 := blk_at hSw.1 1; simp only [List.getElem?_cons_zero, List.getElem?_cons_succ] at y1; clear hSw; go_simp) <;> with_reducible rfl)
        (try simp only [Act.put, List.setIfInBounds_toArray, List.set_cons_zero, List.set_cons_succ])
        refine any_take (i := 2) (v := ?_) rfl (by kernel_rfl) (by kernel_rfl) (by kernel_rfl) (by exact fun _ _ _ h => h) (by rfl) ?_ hS ?_
        rotate_left
        · ((intro w hSw; have y1 := blk_at hSw.1 1; simp only [List.getElem?_cons_zero, List.getElem?_cons_succ] at y1; clear hSw; go_simp) <;> with_reducible rfl)
        (try simp only [Act.put, List.setIfInBounds_toArray, List.set_cons_zero, List.set_cons_succ])
        refine any_take (i := 3) (v := ?_) rfl (by kernel_rfl) (by kernel_rfl) (by kernel_rfl) (by exact fun _ _ _ h => h) (by rfl) ?_ hS ?_
        rotate_left
        · ((intro w hSw; have y1 := blk_at hSw.1 1; simp only [List.getElem?_cons_zero, List.getElem?_cons_succ] at y1; clear hSw; go_simp) <;> with_reducible rfl)
        (try simp only [Act.put, List.setIfInBounds_toArray, List.set_cons_zero, List.set_cons_succ])
        refine any_take (i := 4) (v := ?_) rfl (by kernel_rfl) (by kernel_rfl) (by kernel_rfl) (by exact fun _ _ _ h => h) (by rfl) ?_ hS ?_
        rotate_left
        · ((intro w hSw; have y1 := blk_at hSw.1 1; simp only [List.getElem?_cons_zero, List.getElem?_cons_succ] at y1; clear hSw; go_simp) <;> with_reducible rfl)
        (try simp only [Act.put, List.setIfInBounds_toArray, List.set_cons_zero, List.set_cons_succ])
        refine any_take (i := 5) (v := ?_) rfl (by kernel_rfl) (by kernel_rfl) (by kernel_rfl) (by exact fun _ _ _ h => h) (by rfl) ?_ hS ?_
        rotate_left
        · ((intro w hSw; have y1 := blk_at hSw.1 1; simp only [List.getElem?_cons_zero, List.getElem?_cons_succ] at y1; clear hSw; go_simp) <;> with_reducible rfl)
        (try simp only [Act.put, List.setIfInBounds_toArray, List.set_cons_zero, List.set_cons_succ])
        refine any_one (i := 1) rfl (by kernel_rfl) (fun K hK => ?_)
        go_simp
        refine (Calls.mono (HSu.out _ hS.2)) ?_
        rintro e _ ⟨rfl, rfl⟩
        go_wp2_with fail
        refine hK.out _ _ hS ?_
        clear hK K
        refine any_take (i := 6) (v := ?_) rfl (by kernel_rfl) (by kernel_rfl) (by kernel_rfl) (by exact fun _ _ _ h => h) (by rfl) ?_ hS ?_
        rotate_left
        · ((intro w hSw; have y1 := blk_at hSw.1 1; simp only [List.getElem?_cons_zero, List.getElem?_cons_succ] at y1; clear hSw; go_simp) <;> with_reducible rfl)
        (try simp only [Act.put, List.setIfInBounds_toArray, List.set_cons_zero, List.set_cons_succ])
        refine wpAnyH_done (by kernel_rfl) ?_ _
        have K2 : Hid _ := below_then H2.out.2.2 (Below.refl _ _).drew
        clear H2 hS HSu
        go_wp2
        go_ret2
        have e1 : WB = false := by rw [HW0.out]; exact decide_eq_false hs
        have e2 := HWL.out
        rw [e1, if_neg (by decide)] at e2
        rw [e1, e2]
        exact ⟨_, rfl, Own.nil _ _, K2.out⟩
end Go.Proofs.Ytgonglbgejaffaa
