/- Pairs in memory: given, taken. -/
import Derived.Test.YtligmiajlbjecaaDoorXTxA
import Derived.Test.YtligmiajlbjecaaDoorXDraw
import Derived.Test.YtligmiajlbjecaaDoorXGs1
namespace Go.Proofs.YtligmiajlbjecaaDoor
open Go.RowKit
set_option linter.unusedVariables false
set_option linter.unusedSimpArgs false
set_option maxRecDepth 8000

theorem rcell {w w' : World} {x : Addr} {v : Value} (hb : Below w.heap.size w w') (h : w.cell? x = some v) : w'.cell? x = some v := by
  have hx : x.block < w.heap.size := by
    rcases Nat.lt_or_ge x.block w.heap.size with h1 | h1
    · exact h1
    · unfold World.cell? at h
      rw [Array.getElem?_eq_none h1] at h
      simp at h
  rw [World.cell?_of_block (w := w) (hb.block _ hx)]
  exact h
section
variable {α : Type} {K : Kd α} {w w' : World} {v x : Value} {q : Option Nat} {l m : List α}
/-- more things, out of things that are read -/
theorem GSl.appendC (hK : K.Ok) (h : GSl K w v q l) (hx : GAt K w x m) (hmax : l.length + m.length ≤ 140737488355328) (hby2 : (l.length + m.length) * K.bs ≤ 140737488355328) (ty : TypeId) :
    ∃ v' w' q', (Builtin.append_ #[K.T, K.T] ty #[v, x]).run Tryd.prog w = .ok v' w' ∧ GSl K w' v' q' (l ++ m) ∧ w.grownBy w' q ∧ ∀ b, q' = some b → q = some b ∨ w.heap.size ≤ b := by
  obtain ⟨i0, hi, hz0, hz1, hz2⟩ := info_parts hK.info
  obtain ⟨a, c, rfl, hmc, hnil, hcell⟩ := hx
  have hone := Kd.cs_one hK m
  have hln := Kd.cs_length hK m
  have hg0 : ∀ r, w.grownBy w r := fun r => ⟨rfl, rfl, rfl, Nat.le_refl _, fun _ _ _ => rfl⟩
  cases a with
  | none =>
    obtain ⟨rfl, rfl⟩ := hnil rfl
    rw [List.append_nil]
    obtain ⟨aa, cc, hv, hle, -, -⟩ := h.cell hK
    refine ⟨v, w, q, ?_, h, hg0 _, fun b hb => .inl hb⟩
    rw [hv]
    exact run_append_nothing w K.T K.T ty K.E i0 hK.und hi aa l.length cc hle _ (Src.ofNil w hK.und 0)
  | some ad =>
    have hnews := hcell ad rfl
    rcases h with ⟨rfl, rfl, rfl⟩ | ⟨b, off, cap, cur, rfl, rfl, h3, h4, h5, h6, h7⟩
    · obtain ⟨v', w', hr, h2, h3, -, h5⟩ := run_append_own_at (P := Tryd.prog) w 0 K.T ty K.E i0 K.z K.s K.bs hK.und hi hz0 hz1 hz2 hK.zs hK.pos (.slice none 0 0) 0 [] (World.ownsRow_nil _ _ _ _) ad m.length c (K.cs m) hln hnews hone (by unfold maxLen; simp at hmax; omega) (by simpa using hby2) (Nat.zero_le _)
      refine ⟨v', w', v'.ownBlock, hr, (GSl.ofOwn hK (by simpa using h2)).1, h3, fun b hb => ?_⟩
      rcases h5 with e | e
      · rw [e] at hb; cases hb
      · rw [e] at hb; cases hb; exact .inr (Nat.le_refl _)
    · by_cases hroom : l.length + m.length ≤ cap
      · have hfit : off + l.length * K.s + (K.cs m).length ≤ cur.length := by
          have : (l.length + m.length) * K.s ≤ cap * K.s := Nat.mul_le_mul_right _ hroom
          rw [Nat.add_mul] at this; omega
        have hr := run_append_room_cells (P := Tryd.prog) w K.T ty K.E i0 hK.und hi b off l.length cap ad m.length c (K.cs m) (by rw [hz1]; exact hln) hnews hone hroom
          (fun j hj => by rw [hz1, blk_at h3, List.getElem?_eq_getElem (by omega)]; rfl) (fun j hj => blk_frozen h3 _)
        rw [hz1] at hr
        obtain ⟨B1, g1⟩ := Blk.setCells (K.cs m) (off + l.length * K.s) w cur h3 hfit
        refine ⟨_, _, some b, hr, .inr ⟨b, off, cap, _, rfl, by simp, B1, ?_, by simp; omega, h6, ?_⟩, g1, fun c hc => .inl hc⟩
        · rw [length_splice _ _ _ (by omega)]; exact h4
        · have := splice_mid h7 (Kd.cs_length hK l) (D := K.cs m) (by omega)
          rw [hln, ← Nat.add_mul] at this
          rw [List.length_append, this, Kd.cs_append]
      · have holds : ∀ j y, (K.cs l)[j]? = some y → w.cell? ((⟨b, off, none⟩ : Addr).add j) = some y := by
          have hA : GAt K w (.slice (some ⟨b, off, none⟩) l.length cap) l := GSl.at hK (.inr ⟨b, off, cap, cur, rfl, rfl, h3, h4, h5, h6, h7⟩)
          obtain ⟨a', c', e', _, _, h'⟩ := hA
          cases e'
          exact h' _ rfl
        obtain ⟨v', w', hr, ho, hg⟩ := run_append_arg_grows (P := Tryd.prog) w K.T ty K.E i0 K.z K.s K.bs hK.und hi hz0 hz1 hz2 hK.zs hK.pos ⟨b, off, none⟩ l.length cap (K.cs l) (Kd.cs_length hK l) holds ad m.length c (K.cs m) hln hnews (by omega) (by unfold maxLen; omega) hby2
        have hN := GSl.ofOwn hK (l := l ++ m) (by rw [Kd.cs_append, List.length_append]; exact ho)
        exact ⟨v', w', v'.ownBlock, hr, hN.1, grown_none hg _, fun c hc => .inr (hN.2 c hc)⟩
theorem gat_later (hb : Below w.heap.size w w') (h : GAt K w v l) : GAt K w' v l := by
  obtain ⟨a, c, e, h1, h2, h3⟩ := h
  exact ⟨a, c, e, h1, h2, fun ad had j u hj => rcell hb (h3 ad had j u hj)⟩
theorem GAt.each (hK : K.Ok) {a : Option Addr} {n c : Nat} (h : GAt K w (.slice a n c) l) (k : Nat) (hk : k < l.length) : ∃ b off, a = some ⟨b, off, none⟩ ∧ ∀ j, j < K.s → w.cell? ⟨b, off + k * K.s + j, none⟩ = (K.f l[k])[j]? := by
  obtain ⟨a', c', e, h1, h2, h3⟩ := h
  cases e
  cases a with
  | none => obtain ⟨rfl, -⟩ := h2 rfl; simp at hk
  | some ad =>
    have key : ∀ k (hk : k < l.length) j, j < K.s → w.cell? (ad.add (k * K.s + j)) = (K.f l[k])[j]? := fun k hk j hj => by
      have hlt : j < (K.f l[k]).length := by rw [hK.len]; exact hj
      have e := Kd.cs_at hK l k j hk hj
      rw [List.getElem?_eq_getElem hlt] at e ⊢
      exact h3 _ rfl _ _ e
    have h0 : 0 < (K.f (l[0]'(by omega))).length := by rw [hK.len]; exact hK.pos
    have k0 := key 0 (by omega) 0 hK.pos
    rw [List.getElem?_eq_getElem h0] at k0
    have hs := World.cell?_spot k0
    obtain ⟨b, off, spot⟩ := ad
    have hspot : spot = none := by simpa [Addr.add] using hs
    subst hspot
    refine ⟨b, off, rfl, fun j hj => ?_⟩
    have := key k hk j hj
    rw [Addr.add_lit, ← Nat.add_assoc] at this
    exact this
theorem GAt.len {a : Option Addr} {n c : Nat} (h : GAt K w (.slice a n c) l) : n = l.length ∧ n ≤ c := by
  obtain ⟨a', c', e, h1, -⟩ := h
  cases e
  exact ⟨rfl, h1⟩
end
/-- ranges that a call has made -/
structure PrI (K : Kd (ByteArray × ByteArray)) (w w' : World) (v : Value) (l : List (ByteArray × ByteArray)) : Prop where
  own : ∃ q, GSl K w' v q l ∧ ∀ b, q = some b → w.heap.size ≤ b
  bel : Below w.heap.size w w'
theorem PrI.nil (K : Kd (ByteArray × ByteArray)) (w : World) : PrI K w w (.slice none 0 0) [] := ⟨⟨none, GSl.nil _ _, fun b h => by cases h⟩, Below.refl _ _⟩
theorem PrI.none {K : Kd (ByteArray × ByteArray)} {w w' : World} (hb : Below w.heap.size w w') : PrI K w w' (.slice none 0 0) [] := ⟨⟨Option.none, GSl.nil _ _, fun b h => by cases h⟩, hb⟩
section
variable {K : Kd (ByteArray × ByteArray)} {w w1 w2 : World} {v : Value} {l : List (ByteArray × ByteArray)}
theorem PrI.later (h : PrI K w w1 v l) (hb : Below w1.heap.size w1 w2) : PrI K w w2 v l := by
  obtain ⟨⟨q, h1, h2⟩, h3⟩ := h
  exact ⟨⟨q, h1.later hb, h2⟩, below_then h3 hb⟩
theorem PrI.slice (h : PrI K w w1 v l) (hK : K.Ok) : ∃ a n c, v = .slice a n c := by
  obtain ⟨⟨q, h1, h2⟩, h3⟩ := h
  obtain ⟨a, c, e, -⟩ := h1.cell hK
  exact ⟨a, _, c, e⟩
theorem PrI.at (h : PrI K w w1 v l) (hK : K.Ok) : ∃ a c, v = .slice a l.length c ∧ GAt K w1 v l := by
  obtain ⟨⟨q, h1, h2⟩, h3⟩ := h
  obtain ⟨a, c, e, -⟩ := h1.cell hK
  exact ⟨a, c, e, h1.at hK⟩
theorem PrI.more (h : PrI K w w1 v l) (hK : K.Ok) (x : ByteArray × ByteArray) (cs : List Value) (hcs : K.f x = cs) (h1 : l.length + 1 ≤ 140737488355328) (h2 : (l.length + 1) * K.bs ≤ 140737488355328) :
    ∃ v2 w2, (Builtin.append_ #[K.T, K.T] K.T #[v, .slice (some ⟨w1.heap.size, 0, Option.none⟩) 1 1]).run Tryd.prog (w1.alloc (.cells cs.toArray K.E)) = .ok v2 w2 ∧ PrI K w w2 v2 (l ++ [x]) := by
  obtain ⟨⟨q, hq, hb⟩, bel⟩ := h
  have bn : Below w1.heap.size w1 (w1.alloc (.cells cs.toArray K.E)) := (Below.refl _ _).alloc (Nat.le_refl _) _
  have hx : GAt K (w1.alloc (.cells cs.toArray K.E)) (.slice (some ⟨w1.heap.size, 0, Option.none⟩) 1 1) [x] := by
    refine ⟨_, 1, rfl, by simp, (fun h => by cases h), fun ad h j u hj => ?_⟩
    cases h
    rw [Addr.add_lit, blk_at (Blk.new' w1 K.E cs), Nat.zero_add]
    simpa [Kd.cs, hcs] using hj
  obtain ⟨v2, w2, q2, hr, ho, hg, hor⟩ := (hq.later bn).appendC hK hx (by simpa using h1) (by simpa using h2) K.T
  refine ⟨v2, w2, hr, ⟨⟨q2, ho, fun b hb2 => ?_⟩, ?_⟩⟩
  · rcases hor b hb2 with e | e
    · exact hb b e
    · have := bn.size; have := bel.size; omega
  · exact (below_then bel bn).grown hg (below_then bel bn).size (fun k h => hb k h)
end
set_option maxHeartbeats 2000000 in
theorem given18_any (a : Option Addr) (c : Nat) (l : List (ByteArray × ByteArray)) (w : World) (hA : GAt kRp w (.slice a l.length c) l) (hl : l.length * 32 ≤ 140737488355328) :
    Calls Tryd.prog 11 #[.slice a l.length c] w fun e w' => ∃ v, e = .returned v ∧ PrI kPr w w' v l := by
  have HA : Hid _ := And.intro hA trivial
  have hlI : (l.length : Int) ≤ 140737488355328 := by omega
  clear hA
  go_enter Tryd.func11, Tryd.ntmps11
  go_wp2_with fail
  go_loopw [3, 4] (fun ov iv wr => ∃ k : Nat, iv = .int .i64 k ∧ k ≤ l.length ∧ PrI kPr w wr ov (l.take k)) (fun _ iv _ => l.length - (intOf iv).toNat)
  case atStart => exact ⟨0, rfl, Nat.zero_le _, PrI.nil _ _⟩
  case round =>
    obtain ⟨k, rfl, hk, hI⟩ := hrel
    by_cases hlt : k < l.length
    · have q1 : (k : Int) < (l.length : Int) := by omega
      obtain ⟨b, off, rfl, hc⟩ := (HA.out.1).each kRp_ok k hlt
      have hc0 := hc 0 (by simp [kRp])
      have hc1 := hc 1 (by simp [kRp])
      simp only [kRp, List.getElem?_cons_zero, List.getElem?_cons_succ, Nat.add_zero] at hc0 hc1
      obtain ⟨x, hx⟩ : ∃ x, x = l[k] := ⟨_, rfl⟩
      have htk : l.take (k + 1) = l.take k ++ [x] := by rw [hx]; exact List.take_succ_eq_append_getElem hlt
      rw [← hx] at hc0 hc1
      have l0 : ∀ W, Below w.heap.size w W → W.cell? ⟨b, off + k * 2, none⟩ = some (.string x.1) := fun W hW => rcell hW hc0
      have l1 : ∀ W, Below w.heap.size w W → W.cell? ⟨b, off + k * 2 + 1, none⟩ = some (.string x.2) := fun W hW => rcell hW hc1
      obtain ⟨v2, w2, hr, hI2⟩ := (hI.later (Below.refl wr.heap.size wr).drew).more kPr_ok x [.string x.1, .string x.2] rfl (by rw [List.length_take]; omega) (by rw [List.length_take]; show (min k l.length + 1) * 32 ≤ _; omega)
      rw [← htk] at hI2
      obtain ⟨a2, n2, c2, e2⟩ := hI2.slice kPr_ok
      obtain ⟨a3, n3, c3, e3⟩ := hI.slice kPr_ok
      subst e2
      subst e3
      have HB : Hid (Below w.heap.size w wr.drew ∧ Below w.heap.size w (wr.drew.alloc (.cells #[.string x.1, .string x.2] 59)) ∧ _ ∧ Below w.heap.size w w2) := And.intro (below_then hI.bel (Below.refl _ _).drew) (And.intro (below_then hI.bel (((Below.refl _ _).drew).alloc (Nat.le_refl _) _)) (And.intro hr hI2.bel))
      have F : Hid _ := hI2
      clear hc hc0 hc1 hr hI hI2 htk hx
      go_wp2_with fail
      refine wp_region_held_drew (S := fun W => Below w.heap.size w W) (by kernel_rfl) (HB.out.1) (fun hS => ?_)
      refine any_take (i := 0) (v := ?_) rfl (by kernel_rfl) (by kernel_rfl) (by kernel_rfl) (by exact fun _ _ _ h => h) (by rfl) ?_ hS ?_
      rotate_left
      · ((intro w hSw; have f0 := l0 w hSw; have f1 := l1 w hSw; (try dsimp only at hSw); go_simp) <;> with_reducible rfl)
      (try simp only [Act.put, List.setIfInBounds_toArray, List.set_cons_zero, List.set_cons_succ])
      refine any_take (i := 1) (v := ?_) rfl (by kernel_rfl) (by kernel_rfl) (by kernel_rfl) (by exact fun _ _ _ h => h) (by rfl) ?_ hS ?_
      rotate_left
      · ((intro w hSw; have f0 := l0 w hSw; have f1 := l1 w hSw; (try dsimp only at hSw); go_simp) <;> with_reducible rfl)
      (try simp only [Act.put, List.setIfInBounds_toArray, List.set_cons_zero, List.set_cons_succ])
      refine any_take (i := 2) (v := ?_) rfl (by kernel_rfl) (by kernel_rfl) (by kernel_rfl) (by exact fun _ _ _ h => h) (by rfl) ?_ hS ?_
      rotate_left
      · ((intro w hSw; have f0 := l0 w hSw; have f1 := l1 w hSw; (try dsimp only at hSw); go_simp) <;> with_reducible rfl)
      (try simp only [Act.put, List.setIfInBounds_toArray, List.set_cons_zero, List.set_cons_succ])
      refine any_take (i := 3) (v := ?_) rfl (by kernel_rfl) (by kernel_rfl) (by kernel_rfl) (by exact fun _ _ _ h => h) (by rfl) ?_ hS ?_
      rotate_left
      · ((intro w hSw; have f0 := l0 w hSw; have f1 := l1 w hSw; (try dsimp only at hSw); go_simp) <;> with_reducible rfl)
      (try simp only [Act.put, List.setIfInBounds_toArray, List.set_cons_zero, List.set_cons_succ])
      refine any_take (i := 4) (v := ?_) rfl (by kernel_rfl) (by kernel_rfl) (by kernel_rfl) (by exact fun _ _ _ h => h) (by rfl) ?_ hS ?_
      rotate_left
      · ((intro w hSw; have f0 := l0 w hSw; have f1 := l1 w hSw; (try dsimp only at hSw); go_simp) <;> with_reducible rfl)
      (try simp only [Act.put, List.setIfInBounds_toArray, List.set_cons_zero, List.set_cons_succ])
      refine any_take (i := 5) (v := ?_) rfl (by kernel_rfl) (by kernel_rfl) (by kernel_rfl) (by exact fun _ _ _ h => h) (by rfl) ?_ hS ?_
      rotate_left
      · ((intro w hSw; have f0 := l0 w hSw; have f1 := l1 w hSw; (try dsimp only at hSw); go_simp) <;> with_reducible rfl)
      (try simp only [Act.put, List.setIfInBounds_toArray, List.set_cons_zero, List.set_cons_succ])
      refine any_take (i := 6) (v := ?_) rfl (by kernel_rfl) (by kernel_rfl) (by kernel_rfl) (by exact fun _ _ _ h => h) (by rfl) ?_ hS ?_
      rotate_left
      · ((intro w hSw; have f0 := l0 w hSw; have f1 := l1 w hSw; (try dsimp only at hSw); go_simp) <;> with_reducible rfl)
      (try simp only [Act.put, List.setIfInBounds_toArray, List.set_cons_zero, List.set_cons_succ])
      refine any_take (i := 7) (v := ?_) rfl (by kernel_rfl) (by kernel_rfl) (by kernel_rfl) (by exact fun _ _ _ h => h) (by rfl) ?_ hS ?_
      rotate_left
      · ((intro w hSw; have f0 := l0 w hSw; have f1 := l1 w hSw; (try dsimp only at hSw); go_simp) <;> with_reducible rfl)
      (try simp only [Act.put, List.setIfInBounds_toArray, List.set_cons_zero, List.set_cons_succ])
      refine any_take (i := 8) (v := ?_) rfl (by kernel_rfl) (by kernel_rfl) (by kernel_rfl) (by exact fun _ _ _ h => h) (by rfl) ?_ hS ?_
      rotate_left
      · ((intro w hSw; have f0 := l0 w hSw; have f1 := l1 w hSw; (try dsimp only at hSw); go_simp) <;> with_reducible rfl)
      (try simp only [Act.put, List.setIfInBounds_toArray, List.set_cons_zero, List.set_cons_succ])
      refine any_take (i := 9) (v := ?_) rfl (by kernel_rfl) (by kernel_rfl) (by kernel_rfl) (by exact fun _ _ _ h => h) (by rfl) ?_ hS ?_
      rotate_left
      · ((intro w hSw; have f0 := l0 w hSw; have f1 := l1 w hSw; (try dsimp only at hSw); go_simp) <;> with_reducible rfl)
      (try simp only [Act.put, List.setIfInBounds_toArray, List.set_cons_zero, List.set_cons_succ])
      refine any_take (i := 10) (v := ?_) rfl (by kernel_rfl) (by kernel_rfl) (by kernel_rfl) (by exact fun _ _ _ h => h) (by rfl) ?_ hS ?_
      rotate_left
      · ((intro w hSw; have f0 := l0 w hSw; have f1 := l1 w hSw; (try dsimp only at hSw); go_simp) <;> with_reducible rfl)
      (try simp only [Act.put, List.setIfInBounds_toArray, List.set_cons_zero, List.set_cons_succ])
      refine any_take (i := 11) (v := ?_) rfl (by kernel_rfl) (by kernel_rfl) (by kernel_rfl) (by exact fun _ _ _ h => h) (by rfl) ?_ hS ?_
      rotate_left
      · ((intro w hSw; have f0 := l0 w hSw; have f1 := l1 w hSw; (try dsimp only at hSw); go_simp) <;> with_reducible rfl)
      (try simp only [Act.put, List.setIfInBounds_toArray, List.set_cons_zero, List.set_cons_succ])
      refine any_one (i := 12) rfl (by kernel_rfl) (fun K hK => ?_)
      go_simp
      refine hK.out _ _ (HB.out.2.1) ?_
      clear hK K hS
      have hS := HB.out.2.1
      refine any_one (i := 13) rfl (by kernel_rfl) (fun K hK => ?_)
      refine step_run_app rfl _ _ 28 28 rfl _ _ rfl rfl HB.out.2.2.1 ?_
      refine hK.out _ _ (HB.out.2.2.2) ?_
      clear hK K hS
      have hS := HB.out.2.2.2
      refine any_take (i := 14) (v := ?_) rfl (by kernel_rfl) (by kernel_rfl) (by kernel_rfl) (by exact fun _ _ _ h => h) (by rfl) ?_ hS ?_
      rotate_left
      · ((intro w hSw; skip; (try dsimp only at hSw); go_simp) <;> with_reducible rfl)
      (try simp only [Act.put, List.setIfInBounds_toArray, List.set_cons_zero, List.set_cons_succ])
      refine wpAnyH_done (by kernel_rfl) ?_ _
      clear hS l0 l1
      go_wp2
      go_roundw
      case rel => exact ⟨k + 1, by go_num, by omega, F.out⟩
      case measure => simp [intOf]; omega
    · obtain rfl : k = l.length := by omega
      rw [List.take_length] at hI
      have F : Hid _ := hI
      clear hI
      go_wp2
      go_ret
      exact ⟨_, rfl, F.out⟩
set_option maxHeartbeats 2000000 in
theorem taken18_any (a : Option Addr) (c : Nat) (l : List (ByteArray × ByteArray)) (w : World) (hA : GAt kPr w (.slice a l.length c) l) (hl : l.length * 32 ≤ 140737488355328) :
    Calls Tryd.prog 16 #[.slice a l.length c] w fun e w' => ∃ v, e = .returned v ∧ PrI kRp w w' v l := by
  have HA : Hid _ := And.intro hA trivial
  have hlI : (l.length : Int) ≤ 140737488355328 := by omega
  clear hA
  go_enter Tryd.func16, Tryd.ntmps16
  go_wp2_with fail
  go_loopw [3, 4] (fun ov iv wr => ∃ k : Nat, iv = .int .i64 k ∧ k ≤ l.length ∧ PrI kRp w wr ov (l.take k)) (fun _ iv _ => l.length - (intOf iv).toNat)
  case atStart => exact ⟨0, rfl, Nat.zero_le _, PrI.nil _ _⟩
  case round =>
    obtain ⟨k, rfl, hk, hI⟩ := hrel
    by_cases hlt : k < l.length
    · have q1 : (k : Int) < (l.length : Int) := by omega
      obtain ⟨b, off, rfl, hc⟩ := (HA.out.1).each kPr_ok k hlt
      have hc0 := hc 0 (by simp [kPr])
      have hc1 := hc 1 (by simp [kPr])
      simp only [kPr, List.getElem?_cons_zero, List.getElem?_cons_succ, Nat.add_zero] at hc0 hc1
      obtain ⟨x, hx⟩ : ∃ x, x = l[k] := ⟨_, rfl⟩
      have htk : l.take (k + 1) = l.take k ++ [x] := by rw [hx]; exact List.take_succ_eq_append_getElem hlt
      rw [← hx] at hc0 hc1
      have l0 : ∀ W, Below w.heap.size w W → W.cell? ⟨b, off + k * 2, none⟩ = some (.string x.1) := fun W hW => rcell hW hc0
      have l1 : ∀ W, Below w.heap.size w W → W.cell? ⟨b, off + k * 2 + 1, none⟩ = some (.string x.2) := fun W hW => rcell hW hc1
      obtain ⟨v2, w2, hr, hI2⟩ := (hI.later (Below.refl wr.heap.size wr).drew).more kRp_ok x [.string x.1, .string x.2] rfl (by rw [List.length_take]; omega) (by rw [List.length_take]; show (min k l.length + 1) * 32 ≤ _; omega)
      rw [← htk] at hI2
      obtain ⟨a2, n2, c2, e2⟩ := hI2.slice kRp_ok
      obtain ⟨a3, n3, c3, e3⟩ := hI.slice kRp_ok
      subst e2
      subst e3
      have HB : Hid (Below w.heap.size w wr.drew ∧ Below w.heap.size w (wr.drew.alloc (.cells #[.string x.1, .string x.2] 41)) ∧ _ ∧ Below w.heap.size w w2) := And.intro (below_then hI.bel (Below.refl _ _).drew) (And.intro (below_then hI.bel (((Below.refl _ _).drew).alloc (Nat.le_refl _) _)) (And.intro hr hI2.bel))
      have F : Hid _ := hI2
      clear hc hc0 hc1 hr hI hI2 htk hx
      go_wp2_with fail
      refine wp_region_held_drew (S := fun W => Below w.heap.size w W) (by kernel_rfl) (HB.out.1) (fun hS => ?_)
      refine any_take (i := 0) (v := ?_) rfl (by kernel_rfl) (by kernel_rfl) (by kernel_rfl) (by exact fun _ _ _ h => h) (by rfl) ?_ hS ?_
      rotate_left
      · ((intro w hSw; have f0 := l0 w hSw; have f1 := l1 w hSw; (try dsimp only at hSw); go_simp) <;> with_reducible rfl)
      (try simp only [Act.put, List.setIfInBounds_toArray, List.set_cons_zero, List.set_cons_succ])
      refine any_take (i := 1) (v := ?_) rfl (by kernel_rfl) (by kernel_rfl) (by kernel_rfl) (by exact fun _ _ _ h => h) (by rfl) ?_ hS ?_
      rotate_left
      · ((intro w hSw; have f0 := l0 w hSw; have f1 := l1 w hSw; (try dsimp only at hSw); go_simp) <;> with_reducible rfl)
      (try simp only [Act.put, List.setIfInBounds_toArray, List.set_cons_zero, List.set_cons_succ])
      refine any_take (i := 2) (v := ?_) rfl (by kernel_rfl) (by kernel_rfl) (by kernel_rfl) (by exact fun _ _ _ h => h) (by rfl) ?_ hS ?_
      rotate_left
      · ((intro w hSw; have f0 := l0 w hSw; have f1 := l1 w hSw; (try dsimp only at hSw); go_simp) <;> with_reducible rfl)
      (try simp only [Act.put, List.setIfInBounds_toArray, List.set_cons_zero, List.set_cons_succ])
      refine any_take (i := 3) (v := ?_) rfl (by kernel_rfl) (by kernel_rfl) (by kernel_rfl) (by exact fun _ _ _ h => h) (by rfl) ?_ hS ?_
      rotate_left
      · ((intro w hSw; have f0 := l0 w hSw; have f1 := l1 w hSw; (try dsimp only at hSw); go_simp) <;> with_reducible rfl)
      (try simp only [Act.put, List.setIfInBounds_toArray, List.set_cons_zero, List.set_cons_succ])
      refine any_take (i := 4) (v := ?_) rfl (by kernel_rfl) (by kernel_rfl) (by kernel_rfl) (by exact fun _ _ _ h => h) (by rfl) ?_ hS ?_
      rotate_left
      · ((intro w hSw; have f0 := l0 w hSw; have f1 := l1 w hSw; (try dsimp only at hSw); go_simp) <;> with_reducible rfl)
      (try simp only [Act.put, List.setIfInBounds_toArray, List.set_cons_zero, List.set_cons_succ])
      refine any_take (i := 5) (v := ?_) rfl (by kernel_rfl) (by kernel_rfl) (by kernel_rfl) (by exact fun _ _ _ h => h) (by rfl) ?_ hS ?_
      rotate_left
      · ((intro w hSw; have f0 := l0 w hSw; have f1 := l1 w hSw; (try dsimp only at hSw); go_simp) <;> with_reducible rfl)
      (try simp only [Act.put, List.setIfInBounds_toArray, List.set_cons_zero, List.set_cons_succ])
      refine any_take (i := 6) (v := ?_) rfl (by kernel_rfl) (by kernel_rfl) (by kernel_rfl) (by exact fun _ _ _ h => h) (by rfl) ?_ hS ?_
      rotate_left
      · ((intro w hSw; have f0 := l0 w hSw; have f1 := l1 w hSw; (try dsimp only at hSw); go_simp) <;> with_reducible rfl)
      (try simp only [Act.put, List.setIfInBounds_toArray, List.set_cons_zero, List.set_cons_succ])
      refine any_take (i := 7) (v := ?_) rfl (by kernel_rfl) (by kernel_rfl) (by kernel_rfl) (by exact fun _ _ _ h => h) (by rfl) ?_ hS ?_
      rotate_left
      · ((intro w hSw; have f0 := l0 w hSw; have f1 := l1 w hSw; (try dsimp only at hSw); go_simp) <;> with_reducible rfl)
      (try simp only [Act.put, List.setIfInBounds_toArray, List.set_cons_zero, List.set_cons_succ])
      refine any_take (i := 8) (v := ?_) rfl (by kernel_rfl) (by kernel_rfl) (by kernel_rfl) (by exact fun _ _ _ h => h) (by rfl) ?_ hS ?_
      rotate_left
      · ((intro w hSw; have f0 := l0 w hSw; have f1 := l1 w hSw; (try dsimp only at hSw); go_simp) <;> with_reducible rfl)
      (try simp only [Act.put, List.setIfInBounds_toArray, List.set_cons_zero, List.set_cons_succ])
      refine any_take (i := 9) (v := ?_) rfl (by kernel_rfl) (by kernel_rfl) (by kernel_rfl) (by exact fun _ _ _ h => h) (by rfl) ?_ hS ?_
      rotate_left
      · ((intro w hSw; have f0 := l0 w hSw; have f1 := l1 w hSw; (try dsimp only at hSw); go_simp) <;> with_reducible rfl)
      (try simp only [Act.put, List.setIfInBounds_toArray, List.set_cons_zero, List.set_cons_succ])
      refine any_take (i := 10) (v := ?_) rfl (by kernel_rfl) (by kernel_rfl) (by kernel_rfl) (by exact fun _ _ _ h => h) (by rfl) ?_ hS ?_
      rotate_left
      · ((intro w hSw; have f0 := l0 w hSw; have f1 := l1 w hSw; (try dsimp only at hSw); go_simp) <;> with_reducible rfl)
      (try simp only [Act.put, List.setIfInBounds_toArray, List.set_cons_zero, List.set_cons_succ])
      refine any_take (i := 11) (v := ?_) rfl (by kernel_rfl) (by kernel_rfl) (by kernel_rfl) (by exact fun _ _ _ h => h) (by rfl) ?_ hS ?_
      rotate_left
      · ((intro w hSw; have f0 := l0 w hSw; have f1 := l1 w hSw; (try dsimp only at hSw); go_simp) <;> with_reducible rfl)
      (try simp only [Act.put, List.setIfInBounds_toArray, List.set_cons_zero, List.set_cons_succ])
      refine any_one (i := 12) rfl (by kernel_rfl) (fun K hK => ?_)
      go_simp
      refine hK.out _ _ (HB.out.2.1) ?_
      clear hK K hS
      have hS := HB.out.2.1
      refine any_one (i := 13) rfl (by kernel_rfl) (fun K hK => ?_)
      refine step_run_app rfl _ _ 22 22 rfl _ _ rfl rfl HB.out.2.2.1 ?_
      refine hK.out _ _ (HB.out.2.2.2) ?_
      clear hK K hS
      have hS := HB.out.2.2.2
      refine any_take (i := 14) (v := ?_) rfl (by kernel_rfl) (by kernel_rfl) (by kernel_rfl) (by exact fun _ _ _ h => h) (by rfl) ?_ hS ?_
      rotate_left
      · ((intro w hSw; skip; (try dsimp only at hSw); go_simp) <;> with_reducible rfl)
      (try simp only [Act.put, List.setIfInBounds_toArray, List.set_cons_zero, List.set_cons_succ])
      refine wpAnyH_done (by kernel_rfl) ?_ _
      clear hS l0 l1
      go_wp2
      go_roundw
      case rel => exact ⟨k + 1, by go_num, by omega, F.out⟩
      case measure => simp [intOf]; omega
    · obtain rfl : k = l.length := by omega
      rw [List.take_length] at hI
      have F : Hid _ := hI
      clear hI
      go_wp2
      go_ret
      exact ⟨_, rfl, F.out⟩
end Go.Proofs.YtligmiajlbjecaaDoor

/- text, the document's: Same of pairs that are alike. -/
namespace Go.Proofs.YtligmiajlbjecaaDoor
open Go.RowKit
set_option linter.unusedVariables false
set_option linter.unusedSimpArgs false
set_option maxRecDepth 8000

theorem eqPr (a c b d : ByteArray) (w : World) : Sem.run Tryd.prog (Op.equalIn 10000 41 (.agg #[.string a, .string b]) (.agg #[.string c, .string d])) w = .ok (a.toList == c.toList && b.toList == d.toList) w := by
  have hu : Tryd.prog.underlying 9 = some .string := Tryd.underlying9
  have hpk : Tryd.prog.plainKey 9 = true := by kernel_rfl
  have hf : (Tryd.prog.fieldsOf 41).toList.map (fun f => (f.name, f.type, f.offset)) = [("Key", 9, 0), ("Val", 9, 1)] := by kernel_rfl
  rw [run_equalIn_struct w 9999 41 _ _ (by kernel_rfl) (by kernel_rfl)]
  generalize (Tryd.prog.fieldsOf 41).toList = fs at hf
  have hl2 : fs.length = 2 := by have := congrArg List.length hf; simpa using this
  obtain ⟨f0, f1, rfl⟩ : ∃ f0 f1, fs = [f0, f1] := by
    match fs, hl2 with
    | [f0, f1], _ => exact ⟨f0, f1, rfl⟩
  simp only [List.map_cons, List.map_nil, List.cons.injEq, Prod.mk.injEq, and_true] at hf
  obtain ⟨⟨n0, t0, o0⟩, n1, t1, o1⟩ := hf
  have he : ∀ a b : ByteArray, Sem.run Tryd.prog (Op.equalIn 9999 9 (.string a) (.string b)) w = .ok (a.toList == b.toList) w := fun a b => run_equalIn_string w 9998 9 a b hu
  have h0 : ∀ v0 v1 : Value, Sem.run Tryd.prog (part 9 #[v0, v1] 0) w = .ok v0 w := fun _ _ => run_part_plain w hpk rfl
  have h1 : ∀ v0 v1 : Value, Sem.run Tryd.prog (part 9 #[v0, v1] 1) w = .ok v1 w := fun _ _ => run_part_plain w hpk rfl
  simp only [Op.eqFields, n0, t0, o0, n1, t1, o1, Sem.run_bind, h0, h1, he, Result.andThen_ok, Sem.run_ite]
  cases hac : (a.toList == c.toList) <;> cases hbd : (b.toList == d.toList) <;> simp
set_option maxHeartbeats 2000000 in
theorem samePr_yes (a b : Option Addr) (ca cb : Nat) (l : List (ByteArray × ByteArray)) (w : World) (hA : GAt kRp w (.slice a l.length ca) l) (hB : GAt kRp w (.slice b l.length cb) l) (hl : l.length ≤ 140737488355328) :
    Calls Tryd.prog 15 #[.slice a l.length ca, .slice b l.length cb] w fun e w' => e = .returned (.bool true) ∧ Below w.heap.size w w' := by
  have HA : Hid _ := And.intro hA hB
  have hlI : (l.length : Int) ≤ 140737488355328 := by omega
  clear hA hB
  go_enter Tryd.func15, Tryd.ntmps15
  go_wp2_with fail
  go_loopw [5] (fun iv wr => ∃ k : Nat, iv = .int .i64 k ∧ k ≤ l.length ∧ Below w.heap.size w wr) (fun iv _ => l.length - (intOf iv).toNat)
  case atStart => exact ⟨0, rfl, Nat.zero_le _, Below.refl _ _⟩
  case round =>
    obtain ⟨k, rfl, hk, hI⟩ := hrel
    by_cases hlt : k < l.length
    · have q1 : (k : Int) < (l.length : Int) := by omega
      obtain ⟨p, off, rfl, hc⟩ := (HA.out.1).each kRp_ok k hlt
      obtain ⟨p2, off2, rfl, hd⟩ := (HA.out.2).each kRp_ok k hlt
      have hc0 := hc 0 (by simp [kRp])
      have hc1 := hc 1 (by simp [kRp])
      have hd0 := hd 0 (by simp [kRp])
      have hd1 := hd 1 (by simp [kRp])
      simp only [kRp, List.getElem?_cons_zero, List.getElem?_cons_succ, Nat.add_zero] at hc0 hc1 hd0 hd1
      generalize l[k] = x at *
      have l0 : ∀ W, Below w.heap.size w W → W.cell? ⟨p, off + k * 2, none⟩ = some (.string x.1) := fun W hW => rcell hW hc0
      have l1 : ∀ W, Below w.heap.size w W → W.cell? ⟨p, off + k * 2 + 1, none⟩ = some (.string x.2) := fun W hW => rcell hW hc1
      have m0 : ∀ W, Below w.heap.size w W → W.cell? ⟨p2, off2 + k * 2, none⟩ = some (.string x.1) := fun W hW => rcell hW hd0
      have m1 : ∀ W, Below w.heap.size w W → W.cell? ⟨p2, off2 + k * 2 + 1, none⟩ = some (.string x.2) := fun W hW => rcell hW hd1
      have HE : Hid (∀ W, _) := fun W => eqPr x.1 x.1 x.2 x.2 W
      have F : Hid _ := below_then hI (Below.refl wr.heap.size wr).drew
      clear hc hd hc0 hc1 hd0 hd1 hI
      go_wp2_with fail
      refine wp_region_held_drew (S := fun W => Below w.heap.size w W) (by kernel_rfl) (F.out) (fun hS => ?_)
      refine any_take (i := 0) (v := ?_) rfl (by kernel_rfl) (by kernel_rfl) (by kernel_rfl) (by exact fun _ _ _ h => h) (by rfl) ?_ hS ?_
      rotate_left
      · ((intro w hSw; have f0 := l0 w hSw; have f1 := l1 w hSw; have f2 := m0 w hSw; have f3 := m1 w hSw; (try dsimp only at hSw); go_simp) <;> with_reducible rfl)
      (try simp only [Act.put, List.setIfInBounds_toArray, List.set_cons_zero, List.set_cons_succ])
      refine any_take (i := 1) (v := ?_) rfl (by kernel_rfl) (by kernel_rfl) (by kernel_rfl) (by exact fun _ _ _ h => h) (by rfl) ?_ hS ?_
      rotate_left
      · ((intro w hSw; have f0 := l0 w hSw; have f1 := l1 w hSw; have f2 := m0 w hSw; have f3 := m1 w hSw; (try dsimp only at hSw); go_simp) <;> with_reducible rfl)
      (try simp only [Act.put, List.setIfInBounds_toArray, List.set_cons_zero, List.set_cons_succ])
      refine any_take (i := 2) (v := ?_) rfl (by kernel_rfl) (by kernel_rfl) (by kernel_rfl) (by exact fun _ _ _ h => h) (by rfl) ?_ hS ?_
      rotate_left
      · ((intro w hSw; have f0 := l0 w hSw; have f1 := l1 w hSw; have f2 := m0 w hSw; have f3 := m1 w hSw; (try dsimp only at hSw); go_simp) <;> with_reducible rfl)
      (try simp only [Act.put, List.setIfInBounds_toArray, List.set_cons_zero, List.set_cons_succ])
      refine any_take (i := 3) (v := ?_) rfl (by kernel_rfl) (by kernel_rfl) (by kernel_rfl) (by exact fun _ _ _ h => h) (by rfl) ?_ hS ?_
      rotate_left
      · ((intro w hSw; have f0 := l0 w hSw; have f1 := l1 w hSw; have f2 := m0 w hSw; have f3 := m1 w hSw; (try dsimp only at hSw); go_simp) <;> with_reducible rfl)
      (try simp only [Act.put, List.setIfInBounds_toArray, List.set_cons_zero, List.set_cons_succ])
      refine any_take (i := 4) (v := ?_) rfl (by kernel_rfl) (by kernel_rfl) (by kernel_rfl) (by exact fun _ _ _ h => h) (by rfl) ?_ hS ?_
      rotate_left
      · ((intro w hSw; have f0 := l0 w hSw; have f1 := l1 w hSw; have f2 := m0 w hSw; have f3 := m1 w hSw; (try dsimp only at hSw); go_simp) <;> with_reducible rfl)
      (try simp only [Act.put, List.setIfInBounds_toArray, List.set_cons_zero, List.set_cons_succ])
      refine any_take (i := 5) (v := ?_) rfl (by kernel_rfl) (by kernel_rfl) (by kernel_rfl) (by exact fun _ _ _ h => h) (by rfl) ?_ hS ?_
      rotate_left
      · ((intro w hSw; have f0 := l0 w hSw; have f1 := l1 w hSw; have f2 := m0 w hSw; have f3 := m1 w hSw; (try dsimp only at hSw); go_simp) <;> with_reducible rfl)
      (try simp only [Act.put, List.setIfInBounds_toArray, List.set_cons_zero, List.set_cons_succ])
      refine any_take (i := 6) (v := ?_) rfl (by kernel_rfl) (by kernel_rfl) (by kernel_rfl) (by exact fun _ _ _ h => h) (by rfl) ?_ hS ?_
      rotate_left
      · ((intro w hSw; have f0 := l0 w hSw; have f1 := l1 w hSw; have f2 := m0 w hSw; have f3 := m1 w hSw; (try dsimp only at hSw); go_simp) <;> with_reducible rfl)
      (try simp only [Act.put, List.setIfInBounds_toArray, List.set_cons_zero, List.set_cons_succ])
      refine any_take (i := 7) (v := ?_) rfl (by kernel_rfl) (by kernel_rfl) (by kernel_rfl) (by exact fun _ _ _ h => h) (by rfl) ?_ hS ?_
      rotate_left
      · ((intro w hSw; have f0 := l0 w hSw; have f1 := l1 w hSw; have f2 := m0 w hSw; have f3 := m1 w hSw; (try dsimp only at hSw); go_simp) <;> with_reducible rfl)
      (try simp only [Act.put, List.setIfInBounds_toArray, List.set_cons_zero, List.set_cons_succ])
      refine any_take (i := 8) (v := ?_) rfl (by kernel_rfl) (by kernel_rfl) (by kernel_rfl) (by exact fun _ _ _ h => h) (by rfl) ?_ hS ?_
      rotate_left
      · ((intro w hSw; have f4 := HE.out w; simp only [beq_self_eq_true, Bool.and_self] at f4; (try dsimp only at hSw); go_simp) <;> with_reducible rfl)
      (try simp only [Act.put, List.setIfInBounds_toArray, List.set_cons_zero, List.set_cons_succ])
      refine wpAnyH_done (by kernel_rfl) ?_ _
      clear hS l0 l1 m0 m1 HE
      go_wp2
      go_roundw
      case rel => exact ⟨k + 1, by go_num, by omega, F.out⟩
      case measure => simp [intOf]; omega
    · obtain rfl : k = l.length := by omega
      have F : Hid _ := hI
      clear hI
      go_wp2
      go_ret
      exact ⟨rfl, F.out⟩
end Go.Proofs.YtligmiajlbjecaaDoor
