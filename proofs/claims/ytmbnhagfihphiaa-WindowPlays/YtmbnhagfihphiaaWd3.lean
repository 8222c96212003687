/- A command is taken out of a slice. -/
import Derived.Test.YtmbnhagfihphiaaWd2
namespace Go.Proofs.Ytmbnhagfihphiaa
open Go.RowKit
set_option linter.unusedVariables false
set_option linter.unusedSimpArgs false
set_option maxRecDepth 4000

/-- an append with room -/
theorem room_run {α : Type} {K : Kd α} {w : World} {m : List α} (hK : K.Ok) (b off cap : Nat) (cur : List Value) (l : List α) (hB : Blk w b K.E cur) (hfit : off + cap * K.s ≤ cur.length) (h7 : (cur.drop off).take (l.length * K.s) = K.cs l)
    (ad : Addr) (c : Nat) (hnews : ∀ j u, (K.cs m)[j]? = some u → w.cell? (ad.add j) = some u) (hroom : l.length + m.length ≤ cap) (ty : TypeId) :
    ∃ w' cur', (Builtin.append_ #[K.T, K.T] ty #[.slice (some ⟨b, off, none⟩) l.length cap, .slice (some ad) m.length c]).run Try.prog w = .ok (.slice (some ⟨b, off, none⟩) (l.length + m.length) cap) w' ∧ Blk w' b K.E cur' ∧ cur'.length = cur.length ∧ (cur'.drop off).take ((l.length + m.length) * K.s) = K.cs (l ++ m) ∧ w.grownBy w' (some b) := by
  obtain ⟨i0, hi, hz0, hz1, hz2⟩ := info_parts hK.info
  have hln := Kd.cs_length hK m
  have hf : off + l.length * K.s + (K.cs m).length ≤ cur.length := by
    have : (l.length + m.length) * K.s ≤ cap * K.s := Nat.mul_le_mul_right _ hroom
    rw [Nat.add_mul] at this; omega
  have hr := run_append_room_cells (P := Try.prog) w K.T ty K.E i0 hK.und hi b off l.length cap ad m.length c (K.cs m) (by rw [hz1]; exact hln) hnews (Kd.cs_one hK m) hroom
    (fun j hj => by rw [hz1, blk_at hB, List.getElem?_eq_getElem (by omega)]; rfl) (fun j hj => blk_frozen hB _)
  rw [hz1] at hr
  obtain ⟨B1, g1⟩ := Blk.setCells (K.cs m) (off + l.length * K.s) w cur hB hf
  refine ⟨_, _, hr, B1, length_splice _ _ _ (by omega), ?_, g1⟩
  have := splice_mid h7 (Kd.cs_length hK l) (D := K.cs m) (by omega)
  rw [hln, ← Nat.add_mul] at this
  rw [this, Kd.cs_append]
theorem zero_cmd (w : World) : (zeroValue 54).run Try.prog w = .ok (.agg #[.int .u32 0, .bool false, .int .i64 0]) w := by
  obtain ⟨i0, hi, hz0, hz1, hz2⟩ := info_parts kCmd_ok.info
  have hi' : Try.prog.info? 54 = some i0 := hi
  have hz0' : i0.zero = some (.agg #[.int .u32 0, .bool false, .int .i64 0]) := hz0
  simp [zeroValue, typeInfo, hi', hz0']
/-- clear of one command -/
theorem run_clear_cmd (w : World) (ty : TypeId) (c g off : Nat) (cur : List Value) (hg : Blk w g 54 cur) (hfit : off + 3 ≤ cur.length) :
    ∃ w', (Builtin.clear_ #[50] ty #[.slice (some ⟨g, off, none⟩) 1 c]).run Try.prog w = .ok (.tuple #[]) w' ∧ Blk w' g 54 (splice cur off [.int .u32 0, .bool false, .int .i64 0]) ∧ w.grownBy w' (some g) := by
  have hst := run_storeCells_at Try.prog g off 54 [.int .u32 0, .bool false, .int .i64 0] 0 cur.toArray w hg (by simpa using hfit) (fun v hv => by simp at hv; rcases hv with rfl | rfl | rfl <;> rfl)
  refine ⟨w.setRow g (splice cur off [.int .u32 0, .bool false, .int .i64 0]).toArray, ?_, setRow_heap w g _ _ 54 _ hg, ⟨rfl, rfl, rfl, by simp [World.setRow], fun k hk hr => setRow_other w g k _ (by intro e; subst e; exact hr rfl)⟩⟩
  have hz : (Builtin.zeroCells (#[.int .u32 0, .bool false, .int .i64 0] : Array Value) 1).toList = [.int .u32 0, .bool false, .int .i64 0] := by kernel_rfl
  simp only [Builtin.clear_, run_underlying Try.underlying50, Sem.run_bind, Result.andThen_ok, zero_cmd, List.getElem?_toArray, List.getElem?_cons_zero]
  simp only [Value.cells, hz, hst, Result.andThen_ok, Sem.run_pure, Nat.add_zero]
  simp [splice]
theorem splice_front {cur D : List Value} {off n p : Nat} (h : off + n ≤ p) (hp : p ≤ cur.length) : ((splice cur p D).drop off).take n = (cur.drop off).take n := by
  apply List.ext_getElem?
  intro i
  rw [List.getElem?_take, List.getElem?_take]
  by_cases hi : i < n
  · rw [if_pos hi, if_pos hi, List.getElem?_drop, List.getElem?_drop]
    unfold splice
    rw [List.getElem?_append_left (by rw [List.length_take]; omega), List.getElem?_take, if_pos (by omega)]
  · rw [if_neg hi, if_neg hi]
set_option maxHeartbeats 2000000 in
theorem wDelete_any (v : Value) (q : Option Nat) (l : List Cm) (k : Nat) (w : World) (ho : GSl kCmd w v q l) (hk : k < l.length) (hl : l.length ≤ 20000) :
    Calls Try.prog 31 #[v, .int .i64 k, .int .i64 ((k : Int) + 1)] w fun e w' => (∃ v', e = .returned v' ∧ GSl kCmd w' v' q (l.eraseIdx k)) ∧ w.grownBy w' q := by
  have hat := ho.at kCmd_ok
  rcases ho with ⟨_, _, rfl⟩ | ⟨qb, off, qc, cur, rfl, rfl, h3, h4, h5, h6, h7⟩
  · simp at hk
  obtain ⟨r, hr⟩ : ∃ r, l.length = r + 1 := ⟨l.length - 1, by omega⟩
  have e3 : kCmd.s = 3 := rfl
  rw [e3] at h4 h7
  have hE : kCmd.E = 54 := rfl
  rw [hE] at h3
  obtain ⟨a0, c0, e0, -, -, hcell⟩ := hat
  cases e0
  have hcell := hcell _ rfl
  -- the first k, and those behind
  have ht1 : (l.take k).length = k := by rw [List.length_take]; omega
  have ht2 : (l.drop (k + 1)).length = r - k := by rw [List.length_drop]; omega
  have hfront : (cur.drop off).take ((l.take k).length * 3) = kCmd.cs (l.take k) := by
    rw [ht1, ← Kd.cs_take kCmd_ok, ← h7, List.take_take, e3, Nat.min_eq_left (Nat.mul_le_mul_right _ (by omega))]
  have hback : ∀ j u, (kCmd.cs (l.drop (k + 1)))[j]? = some u → w.cell? ((⟨qb, off + (k + 1) * 3, none⟩ : Addr).add j) = some u := by
    intro j u hj
    rw [← Kd.cs_drop kCmd_ok, List.getElem?_drop] at hj
    have := hcell _ u hj
    rw [Addr.add_lit] at this ⊢
    rw [← Nat.add_assoc] at this
    exact this
  have hrun : ∀ (ap : Addr) (c : Nat), (r - k = 0 ∨ ap = ⟨qb, off + (k + 1) * 3, none⟩) → ∃ w' cur', (Builtin.append_ #[50, 50] 50 #[.slice (some ⟨qb, off, none⟩) k qc, .slice (some ap) (r - k) c]).run Try.prog w.drew = .ok (.slice (some ⟨qb, off, none⟩) r qc) w' ∧ Blk w' qb 54 cur' ∧ cur'.length = cur.length ∧ (cur'.drop off).take (r * 3) = kCmd.cs (l.eraseIdx k) ∧ w.grownBy w' (some qb) := by
    intro ap c hap
    obtain ⟨w', cur', r1, r2, r3, r4, r5⟩ := room_run (w := w.drew) (m := l.drop (k + 1)) kCmd_ok qb off qc cur (l.take k) h3 h4 hfront ap c (fun j u hj => by
      rcases hap with h0 | rfl
      · have e0 : l.drop (k + 1) = [] := List.eq_nil_of_length_eq_zero (by rw [ht2, h0])
        rw [e0] at hj; simp [Kd.cs] at hj
      · exact hback j u hj) (by rw [ht1, ht2]; omega) 50
    rw [ht1, ht2, show k + (r - k) = r by omega] at r1 r4
    refine ⟨w', cur', r1, r2, r3, ?_, ⟨r5.os, r5.tape, r5.output, r5.size, r5.block⟩⟩
    rw [List.eraseIdx_eq_take_drop_succ]; exact r4
  have hlen : (l.eraseIdx k).length = r := by rw [List.length_eraseIdx, if_pos hk]; omega
  have hfin : ∀ (w1 : World) (cur1 : List Value), Blk w1 qb 54 cur1 → cur1.length = cur.length → (cur1.drop off).take (r * 3) = kCmd.cs (l.eraseIdx k) → w.grownBy w1 (some qb) → ∀ c, ∃ w2, (Builtin.clear_ #[50] 0 #[.slice (some ⟨qb, off + r * 3, none⟩) 1 c]).run Try.prog w1 = .ok (.tuple #[]) w2 ∧ GSl kCmd w2 (.slice (some ⟨qb, off, none⟩) r qc) (some qb) (l.eraseIdx k) ∧ w.grownBy w2 (some qb) := by
    intro w1 cur1 B1 l1 t1 g1 c
    have hq : (r + 1) * 3 ≤ qc * 3 := Nat.mul_le_mul_right _ (by omega)
    obtain ⟨w2, r1, r2, r3⟩ := run_clear_cmd w1 0 c qb (off + r * 3) cur1 B1 (by omega)
    refine ⟨w2, r1, .inr ⟨qb, off, qc, _, rfl, by rw [hlen], r2, ?_, by rw [hlen]; omega, h6, ?_⟩, grown_trans g1 r3⟩
    · rw [length_splice _ _ _ (by simp; omega), l1]; exact h4
    · rw [hlen, e3, splice_front (Nat.le_refl _) (by omega)]; exact t1
  have HR : Hid _ := And.intro hrun hfin
  have q1 : (k : Int) ≤ (r : Int) := by omega
  have q2 : (r : Int) + 1 ≤ (qc : Int) := by omega
  have q3 : (r : Int) ≤ 20000 := by omega
  have q6 : (k : Int) ≤ (qc : Int) := by omega
  have q7 : (k : Int) + 1 ≤ (qc : Int) := by omega
  have q8 : (0 : Int) ≤ (k : Int) := by omega
  have q9 : (0 : Int) ≤ (k : Int) + 1 := by omega
  have q5 : (k : Int) + 1 ≤ (r : Int) + 1 := by omega
  rw [hr]
  clear hrun hfin hback hfront hcell h3 h4 h5 h6 h7 ht1 ht2 e3 hE hlen
  generalize l.eraseIdx k = L at *
  clear hl hk hr
  by_cases hkc : qc = k + 1
  · obtain rfl : r = k := by omega
    subst hkc
    obtain ⟨w1, cur1, a1, a2, a3, a4, a5⟩ := HR.out.1 ⟨qb, off, none⟩ 0 (.inl (by omega))
    obtain ⟨w2, c1, c2, c3⟩ := HR.out.2 w1 cur1 a2 a3 a4 a5 1
    rw [show r - r = 0 by omega] at a1
    have HF : Hid _ := And.intro c2 c3
    have HA : Hid _ := a1
    have p1 : (r : Int) ≤ (r : Int) + 1 := by omega
    have p2 : (0 : Int) ≤ (r : Int) + 1 := by omega
    have p3 : r + 1 - r = 1 := by omega
    clear HR q1 q2 q5 q6 q7 a1 a2 a3 a4 a5 c2 c3
    go_enter Try.func31, Try.ntmps31
    go_wp2_with fail
    go_region_law (refine step_run_app rfl (.tmp 22) (.tmp 25) 50 50 rfl _ _ (by simp [Act.eval]; rfl) (by simp [Act.eval]; rfl) HA.out ?_)
    all_goals
      go_wp2
      go_ret
      exact ⟨⟨_, rfl, HF.out.1⟩, HF.out.2⟩
  · obtain ⟨w1, cur1, a1, a2, a3, a4, a5⟩ := HR.out.1 ⟨qb, off + (k + 1) * 3, none⟩ (qc - (k + 1)) (.inr rfl)
    obtain ⟨w2, c1, c2, c3⟩ := HR.out.2 w1 cur1 a2 a3 a4 a5 (qc - r)
    have HF : Hid _ := And.intro c2 c3
    have HA : Hid _ := a1
    clear HR a1 a2 a3 a4 a5 c2 c3
    go_enter Try.func31, Try.ntmps31
    go_wp2_with fail
    go_region_law (refine step_run_app rfl (.tmp 22) (.tmp 25) 50 50 rfl _ _ (by simp [Act.eval]; rfl) (by simp [Act.eval]; rfl) HA.out ?_)
    all_goals
      go_wp2
      go_ret
      exact ⟨⟨_, rfl, HF.out.1⟩, HF.out.2⟩
end Go.Proofs.Ytmbnhagfihphiaa
