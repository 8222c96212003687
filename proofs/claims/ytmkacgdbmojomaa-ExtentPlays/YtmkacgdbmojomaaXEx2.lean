/- Blocks that are read, written and unmapped. -/
import Derived.Test.YtmkacgdbmojomaaXEx1
import Derived.Test.YtmkacgdbmojomaaXDkW4
import Derived.Test.YtmkacgdbmojomaaXDraw
import Derived.ChangeKeysEq
namespace Go.Proofs.Ytmkacgdbmojomaa
open Go.RowKit Go.MapKept Go.ChangeMaps
set_option linter.unusedVariables false
set_option maxRecDepth 4000

def Im.get (m : Im) (i : Int) : List (BitVec 8) := if 0 ≤ i then (m.f i.toNat).getD zero64 else zero64
def Im.has (m : Im) (i : Int) : Bool := if 0 ≤ i then (m.f i.toNat).isSome else false
theorem Im.get_M (m : Im) (i : Int) : (m.M i).getD (arrV zero64) = arrV (m.get i) := by
  unfold Im.M Im.get
  split
  · cases m.f i.toNat <;> rfl
  · rfl
theorem Im.has_M (m : Im) (i : Int) : (m.M i).isSome = m.has i := by
  unfold Im.M Im.has
  split
  · cases m.f i.toNat <;> rfl
  · rfl
theorem Im.Wf.get_len {m : Im} (h : m.Wf) (i : Int) : (m.get i).length = 64 := by
  unfold Im.get
  split
  · cases e : m.f i.toNat with
    | none => exact zero64_len
    | some l => exact (h.each _ _ e).2
  · exact zero64_len
theorem im_look {g b : Nat} {m : Im} {w : World} (h : (im g b m).Ok w) {i : Int} (hi : I64 i) : (Instr.lookup 59 (.map (some b)) (.int .i64 i) false).run Try.prog w = .ok (arrV (m.get i)) w := by
  obtain ⟨h1, h2, es, clock, h3, h4⟩ := h.holds
  have := h4.look (P := Try.prog) und_int und_map h3 (zero_blk w) hi
  rwa [Im.get_M] at this
theorem im_look_ok {g b : Nat} {m : Im} {w : World} (h : (im g b m).Ok w) {i : Int} (hi : I64 i) : (Instr.lookup 59 (.map (some b)) (.int .i64 i) true).run Try.prog w = .ok (.tuple #[arrV (m.get i), .bool (m.has i)]) w := by
  obtain ⟨h1, h2, es, clock, h3, h4⟩ := h.holds
  have := h4.look_ok (P := Try.prog) und_int und_map h3 (zero_blk w) hi
  rwa [Im.get_M, Im.has_M] at this
theorem im_cells {g b : Nat} {m : Im} {w : World} (h : (im g b m).Ok w) : w.cell? ⟨g, 0, none⟩ = some (.int .i64 m.n) ∧ w.cell? ⟨g, 1, none⟩ = some (.map (some b)) := by
  obtain ⟨h1, h2, es, clock, h3, h4⟩ := h.holds
  have c0 := h2.cell (by simp [maxLen]) 0 (by simp)
  have c1 := h2.cell (by simp [maxLen]) 1 (by simp)
  simp only [List.getElem?_cons_succ, List.getElem?_cons_zero] at c0 c1
  exact ⟨c0, c1⟩

set_option maxHeartbeats 400000 in
theorem imHas_any (g b : Nat) (m : Im) (i : Int) (w : World) (h : (im g b m).Ok w) (hw : m.Wf) (hi : I64 i) :
    Calls Try.prog 17 #[.pointer (some ⟨g, 0, none⟩), .int .i64 i] w fun e w' => e = .returned (.bool (m.has i)) ∧ Below w.heap.size w w' := by
  have hlk := im_look_ok h hi
  obtain ⟨-, c1⟩ := im_cells h
  have hl := hw.get_len i
  clear h
  go_enter Try.func17, Try.ntmps17
  go_wp2_with (first | (refine wpList_value rfl (exec_alloc rfl (alloc_blk _)) ?_) | (refine wpList_skip rfl (exec_store rfl rfl rfl (store_blk _ _ hl)) ?_))
  go_ret
  exact ⟨rfl, (Below.refl _ _).alloc (Nat.le_refl _) _⟩

/-- the bytes of blocks -/
def rdN (m : Im) (a : Nat) : Nat → List (BitVec 8)
  | 0 => []
  | k + 1 => rdN m a k ++ m.get (a + k : Nat)
theorem rdN_len {m : Im} (h : m.Wf) (a k : Nat) : (rdN m a k).length = k * 64 := by
  induction k with
  | zero => rfl
  | succ k ih => simp only [rdN, List.length_append, ih, h.get_len]; omega
theorem blk_made (u : World) (N : Nat) : Blk (u.alloc (.cells (madeCells #[.int .u8 0] N) 5)) u.heap.size 5 (vals (List.replicate N 0#8)) := by
  have e : (madeCells #[Value.int .u8 0] N) = (List.replicate N (Value.int .u8 0)).toArray := by
    apply Array.ext
    · simp [madeCells]
    · intro i h1 h2; simp [madeCells, Nat.mod_one]
  rw [vals_zeros, e]; exact Blk.new' u _ _
/-- copy of bytes as a step of a statement whose order is drawn -/
theorem step_copy {ops : Array Oper} {o : Oper} {a : Act} {w : World} {K : Act → World → Prop} {Q : Exit → Act → World → Prop} {E : Prop} (hgd : o.guard = none) (d s : Operand)
    (ho : o.op = .call { callee := .builtin .copy, args := #[d, s], argTypes := #[31, 31] }) (dp sp : Option Addr) (dLen dCap sLen sCap : Nat) (hd : a.eval d = .slice dp dLen dCap) (hs : a.eval s = .slice sp sLen sCap)
    (g off : Nat) (cur : List Value) (t : TypeId) (hg : Blk w g t cur) (lb : List (BitVec 8)) (hn : lb.length = Nat.min sLen dLen) (hpos : 0 < lb.length → dp = some ⟨g, off, none⟩) (hr : Row w sp lb) (hfit : off + lb.length ≤ cur.length)
    (next : ∀ w', Blk w' g t (splice cur off (vals lb)) → w.grownBy w' (some g) → K (a.put o.dst (.int .i64 lb.length)) w') :
    if Region.wanted o (yielded ops a.tmps) = true then Oper.wp Try.prog o a w K Q else E := by
  have hw : Region.wanted o (yielded ops a.tmps) = true := by simp [Region.wanted, hgd]
  rw [if_pos hw]
  obtain ⟨w', hr, hB, hG⟩ := run_copy_bytes w o.type dp sp dLen dCap sLen sCap g off cur t hg lb hn hpos hr hfit
  unfold Oper.wp
  simp only [execOp, ho, resolve, invoke, builtin, Sem.run_bind, Sem.run_pure, Result.andThen_ok, List.map_toArray, List.map_cons, List.map_nil, hd, hs, hr]
  exact next w' hB hG
theorem spansB_yes {n : Nat} {a k : Int} (h : spansB n a k = true) : ∃ x y : Nat, a = x ∧ k = y ∧ x + y ≤ n := by
  unfold spansB at h
  have h := of_decide_eq_true h
  exact ⟨a.toNat, k.toNat, by omega, by omega, by omega⟩
theorem spansB_nat {n x y : Nat} (h : x + y ≤ n) : spansB n x y = true := by
  unfold spansB; exact decide_eq_true (by omega)
/-- a new block's row -/
theorem row_new (w : World) (l : List (BitVec 8)) (t : TypeId) : Row (w.alloc (.cells (vals l).toArray t)) (some ⟨w.heap.size, 0, none⟩) l := by
  refine .inr ⟨w.heap.size, 0, rfl, fun i hi => ?_⟩
  rw [Nat.zero_add, cell_of_row _ _ _ _ _ _ (MapKept.heap_alloc w _).1]
  simpa using vals_at l i hi

set_option maxHeartbeats 1000000 in
theorem imRead_no (g b : Nat) (m : Im) (a k : Int) (w : World) (h : (im g b m).Ok w) (hw : m.Wf) (ha : I64 a) (hk : I64 k) (hs : spansB m.n a k = false) :
    Calls Try.prog 30 #[.pointer (some ⟨g, 0, none⟩), .int .i64 a, .int .i64 k] w fun e w' => e = .returned (.tuple #[.slice none 0 0, .int .i64 1]) ∧ w = w' := by
  have HS := spans_any g b m a k w h hw ha hk
  rw [hs] at HS
  clear h hs
  go_enter Try.func30, Try.ntmps30
  go_wp2_with (go_at_call 54; refine HS.mono ?_; rintro e w' ⟨rfl, rfl⟩)
  go_ret2
  exact ⟨rfl, rfl⟩
theorem rd_splice (m : Im) (a i k : Nat) (hik : i < k) (h1 : (rdN m a i).length = i * 64) (h2 : (m.get ((a : Int) + i)).length = 64) :
    splice (vals (rdN m a i ++ List.replicate ((k - i) * 64) 0#8)) (i * 64) (vals (m.get ((a : Int) + i))) = vals (rdN m a (i + 1) ++ List.replicate ((k - (i + 1)) * 64) 0#8) := by
  have e : (k - i) * 64 = 64 + (k - (i + 1)) * 64 := by omega
  have e2 : m.get ((a : Int) + i) = m.get ((a + i : Nat) : Int) := by simp
  unfold splice
  simp only [rdN, vals_append, ← e2]
  rw [List.take_left' (by rw [vals_length, h1]), List.drop_append, List.drop_eq_nil_of_le (by rw [vals_length, vals_length, h1, h2]; omega), List.nil_append, e, List.append_assoc]
  congr 2
  rw [vals_length, vals_length, h1, h2]
  unfold vals
  rw [← List.map_drop, List.drop_replicate]
  congr 2
  omega
set_option maxHeartbeats 2000000 in
theorem imRead_yes (g b : Nat) (m : Im) (a k : Nat) (w : World) (h : (im g b m).Ok w) (hw : m.Wf) (hs : a + k ≤ m.n) :
    Calls Try.prog 30 #[.pointer (some ⟨g, 0, none⟩), .int .i64 a, .int .i64 k] w fun e w' => ∃ v, e = .returned (.tuple #[v, .int .i64 0]) ∧ Own w' w.heap.size v (rdN m a k) ∧ Below w.heap.size w w' := by
  have hm := hw.most
  have ha : I64 a := by unfold I64; omega
  have hk : I64 k := by unfold I64; omega
  have HS := spans_any g b m a k w h hw ha hk
  rw [spansB_nat hs] at HS
  have hk256 : (k : Int) ≤ 256 := by omega
  have ha256 : (a : Int) ≤ 256 := by omega
  obtain ⟨N, hN⟩ : ∃ N, N = k * 64 := ⟨_, rfl⟩
  have hmk := make_bytes N ((k : Int) * 64) (by omega) (by omega)
  have HN : Hid _ := And.intro hN (And.intro h hw)
  clear h hw hN
  go_enter Try.func30, Try.ntmps30
  go_wp2_with (go_at_call 54; refine HS.mono ?_; rintro e w' ⟨rfl, rfl⟩)
  have B1 := blk_made w N
  have b1 : Below w.heap.size w (w.alloc (.cells (madeCells #[.int .u8 0] N) 5)) := (Below.refl _ _).alloc (Nat.le_refl _) _
  have hz1 : w.heap.size < (w.alloc (.cells (madeCells #[.int .u8 0] N) 5)).heap.size := by simp
  have HB1 : Hid _ := And.intro B1 (And.intro b1 hz1)
  clear B1 b1 hz1 HS
  generalize w.alloc (.cells (madeCells #[.int .u8 0] N) 5) = w1 at *
  go_loopw [22] (fun p wr => ∃ i : Nat, i ≤ k ∧ p = .int .i64 i ∧ Blk wr w.heap.size 5 (vals (rdN m a i ++ List.replicate ((k - i) * 64) 0#8)) ∧ Below w.heap.size w wr ∧ w.heap.size < wr.heap.size) (fun p _ => k - (intOf p).toNat)
  case atStart =>
    refine ⟨0, Nat.zero_le _, rfl, ?_, HB1.out.2.1, HB1.out.2.2⟩
    have := HB1.out.1
    rw [HN.out.1] at this
    simpa [rdN] using this
  case round =>
    obtain ⟨i, hik, rfl, hB, hb, hz⟩ := hrel
    have hok := HN.out.2.1.later hb
    have hwf := HN.out.2.2
    by_cases hlt : i < k
    · have q1 : (i : Int) < (k : Int) := by omega
      obtain ⟨-, c1⟩ := im_cells hok
      have hlk := im_look hok (i := (a : Int) + i) (by unfold I64; omega)
      have hl := hwf.get_len ((a : Int) + i)
      have hrl := rdN_len hwf a i
      have e1 : m.get ((a : Int) + i) = m.get ((a + i : Nat) : Int) := by simp
      have hB0 : Hid _ := And.intro hB (And.intro hb (And.intro hrl (And.intro e1 (And.intro hl hz))))
      have w2 : (i : Int) * 64 ≤ (N : Int) := by have := HN.out.1; omega
      have w3 : ¬ (N : Int) = (i : Int) * 64 := by have := HN.out.1; omega
      have w4 : (0 : Int) ≤ (i : Int) * 64 := by omega
      have w5 : ¬ N = i * 64 := by omega
      have hhl : Hid _ := hl
      clear hok hB hb hrl e1 HB1 hwf hmk hz
      go_wp2_with (first | (refine wpList_value rfl (exec_alloc rfl (alloc_blk _)) ?_) | (refine wpList_skip rfl (exec_store rfl rfl rfl (store_blk _ _ hhl.out)) ?_))
      have R2 := row_new wr (m.get ((a : Int) + i)) 77
      have b2 : Below wr.heap.size wr (wr.alloc (.cells (vals (m.get ((a : Int) + i))).toArray 77)) := (Below.refl _ _).alloc (Nat.le_refl _) _
      have HR2 : Hid _ := And.intro R2 b2
      clear R2 b2 c1 hlk
      generalize wr.alloc (.cells (vals (m.get ((a : Int) + i))).toArray 77) = wq at *
      have S0 : Below wq.heap.size wq wq.drew := (Below.refl _ _).drew
      (try simp only [Act.put, List.setIfInBounds_toArray, List.set_cons_zero, List.set_cons_succ])
      have hwp : IntKind.i64.wrap ((i : Int) * 64) = ((i * 64 : Nat) : Int) := by rw [wrap_i64_small _ (by omega) (by omega)]; omega
      have w6 : ((i * 64 : Nat) : Int) ≤ (N : Int) := by omega
      have w7 : ((i : Int) * 64).toNat = i * 64 := by omega
      refine wp_region_held_drew (S := fun _ => True) (by kernel_rfl) trivial (fun hS => ?_)
      refine any_take (i := 0) (v := ?_) rfl (by kernel_rfl) (by kernel_rfl) (by kernel_rfl) (by exact fun _ _ _ h => h) (by rfl) ?_ hS ?_
      rotate_left
      · ((intro w hSw; (try dsimp only at hSw); go_simp) <;> with_reducible rfl)
      (try simp only [Act.put, List.setIfInBounds_toArray, List.set_cons_zero, List.set_cons_succ])
      refine any_take (i := 1) (v := ?_) rfl (by kernel_rfl) (by kernel_rfl) (by kernel_rfl) (by exact fun _ _ _ h => h) (by rfl) ?_ hS ?_
      rotate_left
      · ((intro w hSw; (try dsimp only at hSw); go_simp) <;> with_reducible rfl)
      (try simp only [Act.put, List.setIfInBounds_toArray, List.set_cons_zero, List.set_cons_succ])
      refine any_take (i := 2) (v := ?_) rfl (by kernel_rfl) (by kernel_rfl) (by kernel_rfl) (by exact fun _ _ _ h => h) (by rfl) ?_ hS ?_
      rotate_left
      · ((intro w hSw; (try dsimp only at hSw); go_simp) <;> with_reducible rfl)
      (try simp only [Act.put, List.setIfInBounds_toArray, List.set_cons_zero, List.set_cons_succ])
      refine any_take (i := 3) (v := ?_) rfl (by kernel_rfl) (by kernel_rfl) (by kernel_rfl) (by exact fun _ _ _ h => h) (by rfl) ?_ hS ?_
      rotate_left
      · ((intro w hSw; (try dsimp only at hSw); go_simp) <;> with_reducible rfl)
      (try simp only [Act.put, List.setIfInBounds_toArray, List.set_cons_zero, List.set_cons_succ])
      refine any_take (i := 4) (v := ?_) rfl (by kernel_rfl) (by kernel_rfl) (by kernel_rfl) (by exact fun _ _ _ h => h) (by rfl) ?_ hS ?_
      rotate_left
      · ((intro w hSw; (try dsimp only at hSw); go_simp) <;> with_reducible rfl)
      (try simp only [Act.put, List.setIfInBounds_toArray, List.set_cons_zero, List.set_cons_succ])
      refine any_one (i := 5) rfl (by kernel_rfl) (fun K hK => step_copy rfl (.tmp 36) (.tmp 37) rfl (some ⟨w.heap.size, i * 64, none⟩) (some ⟨wr.heap.size, 0, none⟩) (N - i * 64) (N - i * 64) 64 64 (by simp [Act.eval]) (by simp [Act.eval]) w.heap.size (i * 64) _ 5 (Blk.laterB (Blk.laterB hB0.out.1 HR2.out.2) S0) (m.get ((a : Int) + i)) ?_ (fun _ => rfl) (Row.later HR2.out.1 S0) ?_ ?_)
      · rw [hhl.out]; have := HN.out.1; exact (Nat.min_eq_left (by omega)).symm
      · rw [hhl.out, vals_length, List.length_append, hB0.out.2.2.1, List.length_replicate]; have : (k - i) * 64 = k * 64 - i * 64 := Nat.sub_mul _ _ _; omega
      intro w4 hB4 hg4
      refine hK.out _ _ trivial ?_
      clear hK K
      (try simp only [Act.put, List.setIfInBounds_toArray, List.set_cons_zero, List.set_cons_succ])
      refine wpAnyH_done (by kernel_rfl) ?_ _
      have e4 := rd_splice m a i k hlt hB0.out.2.2.1 hhl.out
      rw [e4] at hB4
      have b4 := (((hB0.out.2.1.trans (HR2.out.2.mono hB0.out.2.1.size)).trans (S0.mono (Nat.le_trans hB0.out.2.1.size HR2.out.2.size))).grown hg4 (Nat.le_trans hB0.out.2.1.size HR2.out.2.size) (fun q hq => by cases hq; exact Nat.le_refl _))
      have z4 : w.heap.size < w4.heap.size := Nat.lt_of_lt_of_le (Nat.lt_of_lt_of_le hB0.out.2.2.2.2.2 (Nat.le_trans HR2.out.2.size S0.size)) hg4.size
      have F : Hid _ := And.intro hB4 (And.intro b4 z4)
      clear hB4 b4 z4 e4 hg4 hB0 HR2 S0
      go_wp2_with fail
      exact ⟨⟨i + 1, by omega, by go_num, F.out.1, F.out.2.1, F.out.2.2⟩, by simp [intOf]; omega⟩
    · obtain rfl : i = k := by omega
      have hO := blk_own (base := w.heap.size) (cap := N) (l := rdN m a i) hB (by have := HN.out.1; simp [vals_length, rdN_len hwf]; omega) (by simp; exact List.take_of_length_le (by rw [vals_length]; exact Nat.le_refl _)) (by rw [rdN_len hwf, HN.out.1]; exact Nat.le_refl _) (by unfold maxLen; have := HN.out.1; omega) (Nat.le_refl _)
      rw [rdN_len hwf, ← HN.out.1] at hO
      have F : Hid _ := And.intro hO hb
      clear hO hb hB hok hwf HB1
      go_wp2
      go_ret2
      exact ⟨_, rfl, F.out.1, F.out.2⟩
theorem row_part {w : World} {g o : Nat} {l : List (BitVec 8)} (h : Row w (some ⟨g, o, none⟩) l) (off k : Nat) : Row w (some ⟨g, o + off, none⟩) ((l.drop off).take k) := by
  rcases h with rfl | ⟨b, o', hb, hc⟩
  · exact .inl (by simp)
  · cases hb
    refine .inr ⟨g, o + off, rfl, fun i hi => ?_⟩
    have hi' : i < k ∧ i < l.length - off := by simp at hi; omega
    rw [Nat.add_assoc, hc _ (by omega)]
    unfold bt
    rw [List.getD, List.getD, List.getElem?_take, if_pos hi'.1, List.getElem?_drop]
theorem row_lt {w : World} {y off : Nat} {l : List (BitVec 8)} (h : Row w (some ⟨y, off, none⟩) l) (hl : 1 ≤ l.length) : y < w.heap.size := by
  rcases h with rfl | ⟨b, o, hb, hc⟩
  · simp at hl
  · cases hb
    have h0 := hc 0 (by omega)
    rcases Nat.lt_or_ge y w.heap.size with h | h
    · exact h
    · simp [World.cell?, Array.getElem?_eq_none h] at h0
theorem step_update {P : Program} {ops : Array Oper} {o : Oper} {a : Act} {w w' : World} {K : Act → World → Prop} {Q : Exit → Act → World → Prop} {E : Prop} {t : TypeId} {m x y : Operand} (hgd : o.guard = none) (ho : o.op = .mapUpdate t m x y)
    (h : (Instr.mapUpdate t (a.eval m) (a.eval x) (a.eval y)).run P w = .ok () w') (next : K (a.put o.dst undef) w') : if Region.wanted o (yielded ops a.tmps) = true then Oper.wp P o a w K Q else E := by
  have hw : Region.wanted o (yielded ops a.tmps) = true := by simp [Region.wanted, hgd]
  rw [if_pos hw]
  unfold Oper.wp
  rw [exec_mapUpdate ho rfl rfl rfl h]
  exact next
/-- the image behind blocks that are written -/
def putI (m : Im) (i : Nat) (v : Option (List (BitVec 8))) : Im := ⟨m.n, fun j => if j = i then v else m.f j⟩
theorem putI_M (m : Im) (i : Nat) (v : Option (List (BitVec 8))) : (putI m i v).M = setM m.M i (v.map arrV) := by
  funext j
  unfold setM Im.M putI
  by_cases h0 : 0 ≤ j
  · by_cases h1 : j = i
    · subst h1; simp
    · have : ¬ j.toNat = i := by omega
      simp [h0, h1, this]
  · have : ¬ j = (i : Int) := by omega
    simp [h0, this]
theorem putI_wf {m : Im} (h : m.Wf) {i : Nat} {v : Option (List (BitVec 8))} (hi : i < m.n) (hv : ∀ l, v = some l → l.length = 64) : (putI m i v).Wf := by
  refine ⟨h.one, h.most, fun k l hk => ?_⟩
  unfold putI at hk
  simp only at hk
  split at hk
  · rename_i e; subst e; exact ⟨hi, hv l hk⟩
  · exact h.each k l hk
theorem im_put {g b : Nat} {m : Im} {w : World} {es' : Array MapEntry} {clock' : Nat} {m' : Im} (h : (im g b m).Ok w) (hn : m'.n = m.n) (hM : MapIs es' clock' m'.M) : Step w (setBlock w b (.map es' clock')) (im g b m) (im g b m') := by
  obtain ⟨h1, h2, es, clock, h3, h4⟩ := h.holds
  have ht : Turned (· ∈ (im g b m).W) w (setBlock w b (.map es' clock')) := ⟨rfl, rfl, rfl, by simp [setBlock], fun k hk hn => heap_setBlock_other h3 _ (fun e => hn (by simp [im, e]))⟩
  refine ⟨ht, im_ok ⟨h1, ?_, es', clock', heap_setBlock_same h3 _, hM⟩, fun k hk => .inl hk, fun k hk => .inr (.inl hk)⟩
  rw [hn]
  exact h2.turned ht (by simp [im]; exact h1)
theorem im_store {g b : Nat} {m : Im} {w : World} (h : (im g b m).Ok w) (i : Nat) (l : List (BitVec 8)) (hi : I64 i) : ∃ w', (Instr.mapUpdate 59 (.map (some b)) (.int .i64 i) (arrV l)).run Try.prog w = .ok () w' ∧ Step w w' (im g b m) (im g b (putI m i (some l))) := by
  obtain ⟨h1, h2, es, clock, h3, h4⟩ := h.holds
  obtain ⟨es', clock', hr, hM⟩ := h4.store (P := Try.prog) und_int und_map h3 hi (arrV l)
  exact ⟨_, hr, im_put h rfl (by rw [putI_M]; exact hM)⟩
theorem im_drop {g b : Nat} {m : Im} {w : World} (h : (im g b m).Ok w) (i : Nat) (hi : I64 i) (ty : TypeId) : ∃ w', (Builtin.delete_ #[59, 3] ty #[.map (some b), .int .i64 i]).run Try.prog w = .ok (.tuple #[]) w' ∧ Step w w' (im g b m) (im g b (putI m i none)) := by
  obtain ⟨h1, h2, es, clock, h3, h4⟩ := h.holds
  obtain ⟨es', hr, hM⟩ := h4.drop (P := Try.prog) und_int und_map h3 hi ty
  exact ⟨_, hr, im_put h rfl (by rw [putI_M]; exact hM)⟩
/-- behind i blocks of l from a on -/
def wrN (m : Im) (a : Nat) (l : List (BitVec 8)) : Nat → Im
  | 0 => m
  | i + 1 => putI (wrN m a l i) (a + i) (some ((l.drop (i * 64)).take 64))
def unN (m : Im) (a : Nat) : Nat → Im
  | 0 => m
  | i + 1 => putI (unN m a i) (a + i) none
theorem wrN_n (m : Im) (a : Nat) (l : List (BitVec 8)) (i : Nat) : (wrN m a l i).n = m.n := by
  induction i with
  | zero => rfl
  | succ i ih => exact ih
theorem unN_n (m : Im) (a : Nat) (i : Nat) : (unN m a i).n = m.n := by
  induction i with
  | zero => rfl
  | succ i ih => exact ih
theorem wrN_wf {m : Im} (h : m.Wf) (a : Nat) (l : List (BitVec 8)) (i : Nat) (hi : a + i ≤ m.n) (hl : i * 64 ≤ l.length) : (wrN m a l i).Wf := by
  induction i with
  | zero => exact h
  | succ i ih => exact putI_wf (ih (by omega) (by omega)) (by rw [wrN_n]; omega) (fun x hx => by cases hx; rw [List.length_take, List.length_drop]; omega)
theorem unN_wf {m : Im} (h : m.Wf) (a : Nat) (i : Nat) (hi : a + i ≤ m.n) : (unN m a i).Wf := by
  induction i with
  | zero => exact h
  | succ i ih => exact putI_wf (ih (by omega)) (by rw [unN_n]; omega) (fun x hx => by cases hx)
/-- 64 bytes of a row, as a block -/
theorem load_blk {w : World} {y off : Nat} {l : List (BitVec 8)} (hr : Row w (some ⟨y, off, none⟩) l) (hl : l.length = 64) : (Instr.loadAt 77 (.pointer (some ⟨y, off, none⟩))).run Try.prog w = .ok (arrV l) w := by
  rcases hr with rfl | ⟨b, o, hb, hc⟩
  · simp at hl
  cases hb
  have h2 : (loadCells ⟨y, off, none⟩ (vals l).length).run Try.prog w = .ok (vals l).toArray w := run_loadCells_list (P := Try.prog) w ⟨y, off, none⟩ (vals l) (fun j v hj => by
    have hadd : (⟨y, off, none⟩ : Addr).add j = ⟨y, off + j, none⟩ := by unfold Addr.add; split <;> simp_all
    have hjl : j < l.length := by
      rcases Nat.lt_or_ge j l.length with h | h
      · exact h
      · rw [List.getElem?_eq_none (by rw [vals_length]; exact h)] at hj; cases hj
    rw [hadd, hc j hjl, ← vals_at l j hjl, hj])
  rw [vals_length, hl] at h2
  obtain ⟨i, hi, hz⟩ := Option.map_eq_some_iff.1 size_blk
  have hagg : (isAgg 77).run Try.prog w = .ok true w := by
    unfold isAgg
    rw [Sem.run_bind, run_underlying und_blk w]
    rfl
  simp [Instr.loadAt, Instr.sureAddr, loadVar, Sem.run_bind, hagg, sizeOf, typeInfo, hi, hz, h2, arrV]

set_option maxHeartbeats 1000000 in
theorem imUnmap_no (g b : Nat) (m : Im) (a k : Int) (w : World) (h : (im g b m).Ok w) (hw : m.Wf) (ha : I64 a) (hk : I64 k) (hs : spansB m.n a k = false) :
    Calls Try.prog 18 #[.pointer (some ⟨g, 0, none⟩), .int .i64 a, .int .i64 k] w fun e w' => e = .returned (.int .i64 1) ∧ w = w' := by
  have HS := spans_any g b m a k w h hw ha hk
  rw [hs] at HS
  clear h hs
  go_enter Try.func18, Try.ntmps18
  go_wp2_with (go_at_call 54; refine HS.mono ?_; rintro e w' ⟨rfl, rfl⟩)
  go_ret
  exact ⟨rfl, rfl⟩
set_option maxHeartbeats 1000000 in
theorem imUnmap_yes (g b : Nat) (m : Im) (a k : Nat) (w : World) (h : (im g b m).Ok w) (hw : m.Wf) (hs : a + k ≤ m.n) :
    Calls Try.prog 18 #[.pointer (some ⟨g, 0, none⟩), .int .i64 a, .int .i64 k] w fun e w' => e = .returned (.int .i64 0) ∧ Step w w' (im g b m) (im g b (unN m a k)) := by
  have hm := hw.most
  have ha : I64 a := by unfold I64; omega
  have hk : I64 k := by unfold I64; omega
  have HS := spans_any g b m a k w h hw ha hk
  rw [spansB_nat hs] at HS
  have hk256 : (k : Int) ≤ 256 := by omega
  have ha256 : (a : Int) ≤ 256 := by omega
  have HN : Hid _ := And.intro h hw
  clear h hw
  go_enter Try.func18, Try.ntmps18
  go_wp2_with (go_at_call 54; refine HS.mono ?_; rintro e w' ⟨rfl, rfl⟩)
  clear HS
  go_loopw [16] (fun p wr => ∃ i : Nat, i ≤ k ∧ p = .int .i64 i ∧ Step w wr (im g b m) (im g b (unN m a i))) (fun p _ => k - (intOf p).toNat)
  case atStart =>
    exact ⟨0, Nat.zero_le _, rfl, Step.refl HN.out.1⟩
  case round =>
    obtain ⟨i, hik, rfl, hst⟩ := hrel
    by_cases hlt : i < k
    · have q1 : (i : Int) < (k : Int) := by omega
      obtain ⟨-, c1⟩ := im_cells hst.ok
      obtain ⟨w', hdel, hst'⟩ := im_drop hst.ok (a + i) (by unfold I64; omega) 0
      have e0 : ((a + i : Nat) : Int) = (a : Int) + i := by omega
      rw [e0] at hdel
      have F : Hid _ := hst.trans hst'
      clear hst hst' e0
      go_wp2
      exact ⟨⟨i + 1, by omega, by go_num, F.out⟩, by simp [intOf]; omega⟩
    · obtain rfl : i = k := by omega
      have F : Hid _ := hst
      clear hst
      go_wp2
      go_ret
      exact ⟨rfl, F.out⟩

set_option maxHeartbeats 1000000 in
theorem imWrite_no (g b : Nat) (m : Im) (a : Int) (x : Option Addr) (len cap : Nat) (w : World) (h : (im g b m).Ok w) (hw : m.Wf) (ha : I64 a) (hlen : len ≤ 140737488355328) (hs : len % 64 ≠ 0 ∨ spansB m.n a (len / 64 : Nat) = false) :
    Calls Try.prog 27 #[.pointer (some ⟨g, 0, none⟩), .int .i64 a, .slice x len cap] w fun e w' => e = .returned (.int .i64 1) ∧ w = w' := by
  by_cases h1 : len % 64 = 0
  · have HS := spans_any g b m a (len / 64 : Nat) w h hw ha (by unfold I64; omega)
    rw [hs.resolve_left (fun e => e h1)] at HS
    have q1 : ((len : Int) % 64 == 0) = true := by simp; omega
    have q2 : (len : Int) % 64 = 0 := by omega
    clear h hs h1
    go_enter Try.func27, Try.ntmps27
    go_wp2_with (go_at_call 54; refine HS.mono ?_; rintro e w' ⟨rfl, rfl⟩)
    go_ret
    exact ⟨rfl, rfl⟩
  · have q1 : ((len : Int) % 64 == 0) = false := by simp; omega
    have q2 : ¬ (len : Int) % 64 = 0 := by omega
    clear h hs h1
    go_enter Try.func27, Try.ntmps27
    go_wp2
    go_ret
    exact ⟨rfl, rfl⟩
set_option maxHeartbeats 2000000 in
theorem imWrite_yes (g b : Nat) (m : Im) (a k : Nat) (x : Option Addr) (len cap : Nat) (l : List (BitVec 8)) (w : World) (h : (im g b m).Ok w) (hw : m.Wf) (hs : a + k ≤ m.n) (hlen : len = k * 64) (hl : l.length = len) (hcap : len ≤ cap) (hr : Row w x l) (hv : ∀ y, x = some y → y.block ≠ b) :
    Calls Try.prog 27 #[.pointer (some ⟨g, 0, none⟩), .int .i64 a, .slice x len cap] w fun e w' => e = .returned (.int .i64 0) ∧ Step w w' (im g b m) (im g b (wrN m a l k)) := by
  have hm := hw.most
  have ha : I64 a := by unfold I64; omega
  have hk : I64 k := by unfold I64; omega
  have HS := spans_any g b m a k w h hw ha hk
  rw [spansB_nat hs] at HS
  have hk256 : (k : Int) ≤ 256 := by omega
  have ha256 : (a : Int) ≤ 256 := by omega
  have q0 : (len : Int) / 64 = (k : Int) := by omega
  have q1 : ((len : Int) % 64 == 0) = true := by simp; omega
  have q2 : (len : Int) % 64 = 0 := by omega
  have q3 : (len : Int) ≤ 16384 := by omega
  have q4 : (len : Int) ≤ (cap : Int) := by omega
  have HN : Hid _ := And.intro h (And.intro hw (And.intro hlen (And.intro hl hr)))
  clear h hw hlen hr
  go_enter Try.func27, Try.ntmps27
  go_wp2_with (go_at_call 54; refine HS.mono ?_; rintro e w' ⟨rfl, rfl⟩)
  clear HS
  go_loopw [26] (fun p wr => ∃ i : Nat, i ≤ k ∧ p = .int .i64 i ∧ Step w wr (im g b m) (im g b (wrN m a l i))) (fun p _ => k - (intOf p).toNat)
  case atStart =>
    exact ⟨0, Nat.zero_le _, rfl, Step.refl HN.out.1⟩
  case round =>
    obtain ⟨i, hik, rfl, hst⟩ := hrel
    by_cases hlt : i < k
    · have q5 : (i : Int) < (k : Int) := by omega
      have hok := hst.ok
      have hi64 : i * 64 + 64 ≤ len := by have := HN.out.2.2.1; omega
      obtain ⟨y, off, rfl⟩ : ∃ y off, x = some ⟨y, off, none⟩ := by
        rcases HN.out.2.2.2.2 with e | ⟨y, off, e, _⟩
        · have := HN.out.2.2.2.1; rw [e] at this; simp at this; omega
        · exact ⟨y, off, e⟩
      have hrow : Row wr (some ⟨y, off, none⟩) l := HN.out.2.2.2.2.same (fun z hz => by
        cases hz
        exact hst.turned.block y (row_lt HN.out.2.2.2.2 (by have := HN.out.2.2.2.1; omega)) (by simp [im]; exact hv _ rfl))
      have hl64 : ((l.drop (i * 64)).take 64).length = 64 := by rw [List.length_take, List.length_drop]; have := HN.out.2.2.2.1; omega
      obtain ⟨w', hupd, hst'⟩ := im_store hok.drew (a + i) ((l.drop (i * 64)).take 64) (by unfold I64; omega)
      have hrow' : Row w' (some ⟨y, off, none⟩) l := hrow.same (fun z hz => by
        cases hz
        exact hst'.turned.block y (row_lt hrow (by have := HN.out.2.2.2.1; omega)) (by simp [im]; exact hv _ rfl))
      obtain ⟨-, c1⟩ := im_cells hok
      have hst' : Step wr w' (im g b (wrN m a l i)) (im g b (wrN m a l (i + 1))) := (Step.quiet hok (Below.refl _ _).drew).trans hst'
      have e0 : ((a + i : Nat) : Int) = (a : Int) + i := by omega
      rw [e0] at hupd
      have hwp : IntKind.i64.wrap ((i : Int) * 64) = ((i * 64 : Nat) : Int) := by rw [wrap_i64_small _ (by omega) (by omega)]; omega
      have hwa : IntKind.i64.wrap ((a : Int) + (i : Int)) = ((a + i : Nat) : Int) := by rw [wrap_i64_small _ (by omega) (by omega)]; omega
      have w4 : (0 : Int) ≤ (i : Int) * 64 := by omega
      have w6 : (i : Int) * 64 ≤ (len : Int) := by omega
      have w7 : ((i : Int) * 64).toNat = i * 64 := by omega
      have w10 : ¬ cap = i * 64 := by omega
      have w8 : 64 ≤ len - i * 64 := by omega
      have w9 : ¬ len - i * 64 < 64 := by omega
      have HST : Hid _ := hst
      clear hst hok e0
      go_wp2_with fail
      (try simp only [Act.put, List.setIfInBounds_toArray, List.set_cons_zero, List.set_cons_succ])
      refine wp_region_held_drew (S := fun W => W.cell? ⟨g, 1, none⟩ = some (.map (some b)) ∧ Row W (some ⟨y, off, none⟩) l) (by kernel_rfl) ⟨c1, hrow.later (Below.refl _ _).drew⟩ (fun hS => ?_)
      refine any_take (i := 0) (v := ?_) rfl (by kernel_rfl) (by kernel_rfl) (by kernel_rfl) (by exact fun _ _ _ h => h) (by rfl) ?_ hS ?_
      rotate_left
      · ((intro w hSw; (try dsimp only at hSw); go_simp) <;> with_reducible rfl)
      (try simp only [Act.put, List.setIfInBounds_toArray, List.set_cons_zero, List.set_cons_succ])
      refine any_take (i := 1) (v := ?_) rfl (by kernel_rfl) (by kernel_rfl) (by kernel_rfl) (by exact fun _ _ _ h => h) (by rfl) ?_ hS ?_
      rotate_left
      · ((intro w hSw; (try dsimp only at hSw); go_simp) <;> with_reducible rfl)
      (try simp only [Act.put, List.setIfInBounds_toArray, List.set_cons_zero, List.set_cons_succ])
      refine any_take (i := 2) (v := ?_) rfl (by kernel_rfl) (by kernel_rfl) (by kernel_rfl) (by exact fun _ _ _ h => h) (by rfl) ?_ hS ?_
      rotate_left
      · ((intro w hSw; (try dsimp only at hSw); go_simp) <;> with_reducible rfl)
      (try simp only [Act.put, List.setIfInBounds_toArray, List.set_cons_zero, List.set_cons_succ])
      refine any_take (i := 3) (v := .map (some b)) rfl (by kernel_rfl) (by kernel_rfl) (by kernel_rfl) (by exact fun _ _ _ h => h) (by rfl) ?_ hS ?_
      · intro W hSW; have c1 := hSW.1; go_simp
      (try simp only [Act.put, List.setIfInBounds_toArray, List.set_cons_zero, List.set_cons_succ])
      refine any_take (i := 4) (v := ?_) rfl (by kernel_rfl) (by kernel_rfl) (by kernel_rfl) (by exact fun _ _ _ h => h) (by rfl) ?_ hS ?_
      rotate_left
      · ((intro w hSw; (try dsimp only at hSw); go_simp) <;> with_reducible rfl)
      (try simp only [Act.put, List.setIfInBounds_toArray, List.set_cons_zero, List.set_cons_succ])
      refine any_take (i := 5) (v := ?_) rfl (by kernel_rfl) (by kernel_rfl) (by kernel_rfl) (by exact fun _ _ _ h => h) (by rfl) ?_ hS ?_
      rotate_left
      · ((intro w hSw; (try dsimp only at hSw); go_simp) <;> with_reducible rfl)
      (try simp only [Act.put, List.setIfInBounds_toArray, List.set_cons_zero, List.set_cons_succ])
      refine any_take (i := 6) (v := ?_) rfl (by kernel_rfl) (by kernel_rfl) (by kernel_rfl) (by exact fun _ _ _ h => h) (by rfl) ?_ hS ?_
      rotate_left
      · ((intro w hSw; (try dsimp only at hSw); go_simp) <;> with_reducible rfl)
      (try simp only [Act.put, List.setIfInBounds_toArray, List.set_cons_zero, List.set_cons_succ])
      refine any_take (i := 7) (v := ?_) rfl (by kernel_rfl) (by kernel_rfl) (by kernel_rfl) (by exact fun _ _ _ h => h) (by rfl) ?_ hS ?_
      rotate_left
      · ((intro w hSw; (try dsimp only at hSw); go_simp) <;> with_reducible rfl)
      (try simp only [Act.put, List.setIfInBounds_toArray, List.set_cons_zero, List.set_cons_succ])
      refine any_take (i := 8) (v := ?_) rfl (by kernel_rfl) (by kernel_rfl) (by kernel_rfl) (by exact fun _ _ _ h => h) (by rfl) ?_ hS ?_
      rotate_left
      · ((intro w hSw; (try dsimp only at hSw); go_simp) <;> with_reducible rfl)
      (try simp only [Act.put, List.setIfInBounds_toArray, List.set_cons_zero, List.set_cons_succ])
      refine any_take (i := 9) (v := ?_) rfl (by kernel_rfl) (by kernel_rfl) (by kernel_rfl) (by exact fun _ _ _ h => h) (by rfl) ?_ hS ?_
      rotate_left
      · ((intro w hSw; (try dsimp only at hSw); go_simp) <;> with_reducible rfl)
      (try simp only [Act.put, List.setIfInBounds_toArray, List.set_cons_zero, List.set_cons_succ])
      refine any_take (i := 10) (v := .slice (some ⟨y, off + i * 64, none⟩) (len - i * 64) (cap - i * 64)) rfl (by kernel_rfl) (by kernel_rfl) (by kernel_rfl) (by exact fun _ _ _ h => h) (by rfl) ?_ hS ?_
      · intro W hSW; go_simp
      (try simp only [Act.put, List.setIfInBounds_toArray, List.set_cons_zero, List.set_cons_succ])
      refine any_take (i := 11) (v := .pointer (some ⟨y, off + i * 64, none⟩)) rfl (by kernel_rfl) (by kernel_rfl) (by kernel_rfl) (by exact fun _ _ _ h => h) (by rfl) ?_ hS ?_
      · intro W hSW; simp [execOp, Act.eval, Instr.arrayAt, run_underlying und_blk, w9]
      (try simp only [Act.put, List.setIfInBounds_toArray, List.set_cons_zero, List.set_cons_succ])
      refine any_take (i := 12) (v := arrV ((l.drop (i * 64)).take 64)) rfl (by kernel_rfl) (by kernel_rfl) (by kernel_rfl) (by exact fun _ _ _ h => h) (by rfl) ?_ hS ?_
      · intro W hSW; exact exec_load rfl rfl (load_blk (row_part hSW.2 (i * 64) 64) hl64)
      (try simp only [Act.put, List.setIfInBounds_toArray, List.set_cons_zero, List.set_cons_succ])
      refine any_one (i := 13) rfl (by kernel_rfl) (fun K hK => step_update rfl rfl (by simpa [Act.eval] using hupd) ?_)
      refine hK.out _ _ ⟨(im_cells hst'.ok).2, hrow'⟩ ?_
      clear hK K hS
      (try simp only [Act.put])
      refine wpAnyH_done (by kernel_rfl) ?_ _
      have F : Hid _ := HST.out.trans hst'
      clear hst' hrow' hrow HST c1
      go_wp2_with fail
      exact ⟨⟨i + 1, by omega, by go_num, F.out⟩, by simp [intOf]; omega⟩
    · obtain rfl : i = k := by omega
      have F : Hid _ := hst
      clear hst
      go_wp2
      go_ret
      exact ⟨rfl, F.out⟩
end Go.Proofs.Ytmkacgdbmojomaa

/- A change that can be, and one that is done. -/
namespace Go.Proofs.Ytmkacgdbmojomaa
open Go.RowKit Go.MapKept Go.ChangeMaps
set_option linter.unusedVariables false
set_option maxRecDepth 4000

/-- can a change of that block, of so many bytes, be? -/
def canB (n : Nat) (a : Int) (len : Nat) : Bool := spansB n a 1 && (len == 0 || len == 64)
theorem box2_below (w : World) (x y : Value) (T : TypeId) : Below w.heap.size w (w.alloc (.cells #[x, y] T)) := (Below.refl _ _).alloc (Nat.le_refl _) _
set_option maxHeartbeats 1000000 in
theorem canBe_any (g b : Nat) (m : Im) (a : Int) (x : Option Addr) (len cap : Nat) (w : World) (h : (im g b m).Ok w) (hw : m.Wf) (ha : I64 a) (hlen : len ≤ 140737488355328) :
    Calls Try.prog 60 #[.pointer (some ⟨g, 0, none⟩), .agg #[.int .i64 a, .slice x len cap]] w fun e w' => e = .returned (.bool (canB m.n a len)) ∧ Below w.heap.size w w' := by
  have b1 := box2_below w (.int .i64 a) (.slice x len cap) 57
  obtain ⟨c0, c1⟩ := box_cells w (.int .i64 a) (.slice x len cap) 57
  have HS := spans_any g b m a 1 _ (h.later b1) hw ha (by unfold I64; omega)
  have F : Hid _ := b1
  obtain ⟨R, hR⟩ : ∃ R, R = canB m.n a len := ⟨_, rfl⟩
  rw [← hR]
  unfold canB at hR
  clear h b1
  cases hs : spansB m.n a 1 with
  | false =>
    rw [hs] at HS hR
    have HR : Hid _ := hR
    clear hR hs
    go_enter Try.func60, Try.ntmps60
    go_wp2_with (go_at_call 54; refine HS.mono ?_; rintro e w' ⟨rfl, rfl⟩)
    go_ret
    exact ⟨ret_bool (by rw [HR.out]; rfl), F.out⟩
  | true =>
    rw [hs] at HS hR
    have HR : Hid _ := hR
    clear hR hs
    by_cases h0 : len = 0
    · subst h0
      go_enter Try.func60, Try.ntmps60
      go_wp2_with (go_at_call 54; refine HS.mono ?_; rintro e w' ⟨rfl, rfl⟩)
      go_ret
      exact ⟨ret_bool (by rw [HR.out]; rfl), F.out⟩
    · have q0 : ¬ (len : Int) = 0 := by omega
      have q1 : ((len : Int) == 0) = false := by simpa using h0
      go_enter Try.func60, Try.ntmps60
      go_wp2_with (go_at_call 54; refine HS.mono ?_; rintro e w' ⟨rfl, rfl⟩)
      go_ret
      exact ⟨ret_bool (by
        rw [HR.out]
        have : (len == 0) = false := by simpa using h0
        rw [this, Bool.true_and, Bool.false_or]
        by_cases h64 : len = 64
        · subst h64; rfl
        · have e1 : (len == 64) = false := by simpa using h64
          rw [e1]
          simp
          omega), F.out⟩
/-- what a change does -/
def chI (m : Im) (a : Nat) (l : List (BitVec 8)) : Im := putI m a (if l = [] then none else some l)
theorem step_delete {P : Program} {ops : Array Oper} {o : Oper} {a : Act} {w w' : World} {K : Act → World → Prop} {Q : Exit → Act → World → Prop} {E : Prop} {t k : TypeId} {m x : Operand} (hgd : o.guard = none)
    (ho : o.op = .call { callee := .builtin .delete, args := #[m, x], argTypes := #[t, k] }) (h : (Builtin.delete_ #[t, k] o.type #[a.eval m, a.eval x]).run P w = .ok (.tuple #[]) w') (next : K (a.put o.dst (.tuple #[])) w') :
    if Region.wanted o (yielded ops a.tmps) = true then Oper.wp P o a w K Q else E := by
  have hw : Region.wanted o (yielded ops a.tmps) = true := by simp [Region.wanted, hgd]
  rw [if_pos hw]
  unfold Oper.wp
  simp only [execOp, ho, resolve, invoke, builtin, Sem.run_bind, Sem.run_pure, Result.andThen_ok, List.map_toArray, List.map_cons, List.map_nil, h]
  exact next
theorem cells_not_map {g b : Nat} {m : Im} {W : World} (h : (im g b m).Ok W) {y o : Nat} {v : Value} (hc : W.cell? ⟨y, o, none⟩ = some v) : y ≠ b := by
  rintro rfl
  obtain ⟨h1, h2, es, clock, h3, h4⟩ := h.holds
  simp [World.cell?, h3] at hc
/-- rows and cells that are not the map's stay -/
theorem ch_keep {g b : Nat} {m m' : Im} {W W' : World} {q : Nat} {u v : Value} {x : Option Addr} {l : List (BitVec 8)} (hst : Step W W' (im g b m) (im g b m')) (hB : Blk W q 57 [u, v]) (hqb : q ≠ b) (hr : Row W x l) (hok : (im g b m).Ok W) :
    W'.cell? ⟨g, 1, none⟩ = some (.map (some b)) ∧ W'.cell? ⟨q, 0, none⟩ = some u ∧ W'.cell? ⟨q, 1, none⟩ = some v ∧ Row W' x l := by
  have hB' := hB.turned hst.turned (by simp [im]; exact hqb)
  have c0 := hB'.cell (by simp [maxLen]) 0 (by simp)
  have c1 := hB'.cell (by simp [maxLen]) 1 (by simp)
  simp only [List.getElem?_cons_succ, List.getElem?_cons_zero] at c0 c1
  refine ⟨(im_cells hst.ok).2, c0, c1, ?_⟩
  rcases hr with rfl | ⟨y, off, rfl, hc⟩
  · exact .inl rfl
  · by_cases hl : l = []
    · exact .inl hl
    · have hr' : Row W (some ⟨y, off, none⟩) l := .inr ⟨y, off, rfl, hc⟩
      have hpos : 1 ≤ l.length := by cases l with | nil => exact absurd rfl hl | cons _ _ => simp
      exact hr'.same (fun z hz => by cases hz; exact hst.turned.block y (row_lt hr' hpos) (by simp [im]; exact cells_not_map hok (hc 0 (by omega))))

set_option maxHeartbeats 2000000 in
theorem change_none (g b : Nat) (m : Im) (a : Nat) (x : Option Addr) (len cap : Nat) (l : List (BitVec 8)) (w : World) (h : (im g b m).Ok w) (ha : a < 256) (hl : l.length = len) (h0 : len = 0) (hr : Row w x l) :
    Calls Try.prog 61 #[.pointer (some ⟨g, 0, none⟩), .agg #[.int .i64 a, .slice x len cap]] w fun e w' => e = .returned (.tuple #[]) ∧ Step w w' (im g b m) (im g b (chI m a l)) := by
  have b1 := box2_below w (.int .i64 (a : Int)) (.slice x len cap) 57
  obtain ⟨c0, c1⟩ := box_cells w (.int .i64 (a : Int)) (.slice x len cap) 57
  have hqg : g < w.heap.size := h.lt g (.inr (by simp [im]))
  have hqb : b < w.heap.size := h.lt b (.inl (by simp [im]))
  have ok1 := h.later b1
  have r1 := hr.later b1
  have B1 : Blk (w.alloc (.cells #[.int .i64 (a : Int), .slice x len cap] 57)) w.heap.size 57 [.int .i64 (a : Int), .slice x len cap] := Blk.new' w _ _
  have hz1 : (w.alloc (.cells #[.int .i64 (a : Int), .slice x len cap] 57)).heap.size = w.heap.size + 1 := by simp
  subst h0
  obtain rfl : l = [] := List.eq_nil_of_length_eq_zero hl
  obtain ⟨w', hdel, hst⟩ := im_drop ok1.drew a (by unfold I64; omega) 0
  have hk := ch_keep hst (W := (w.alloc (.cells #[.int .i64 (a : Int), .slice x 0 cap] 57)).drew) B1 (by omega) (r1.later (Below.refl _ _).drew) ok1.drew
  have hcm : chI m a [] = putI m a none := by unfold chI; rw [if_pos rfl]
  rw [hcm]
  have cg := (im_cells ok1).2
  have F : Hid _ := (Step.quiet h b1).trans ((Step.quiet ok1 (Below.refl _ _).drew).trans hst)
  clear b1 hst h hr
  go_enter Try.func61, Try.ntmps61
  go_wp2_with fail
  generalize w.alloc (.cells #[.int .i64 (a : Int), .slice x 0 cap] 57) = w1 at *
  (try simp only [Act.put, List.setIfInBounds_toArray, List.set_cons_zero, List.set_cons_succ])
  refine wp_region_held_drew (S := fun W => W.cell? ⟨g, 1, none⟩ = some (.map (some b)) ∧ W.cell? ⟨w.heap.size, 0, none⟩ = some (.int .i64 (a : Int)) ∧ W.cell? ⟨w.heap.size, 1, none⟩ = some (.slice x 0 cap) ∧ Row W x []) (by kernel_rfl) ⟨cg, c0, c1, r1.later (Below.refl _ _).drew⟩ (fun hS => ?_)
  refine any_take (i := 0) (v := ?_) rfl (by kernel_rfl) (by kernel_rfl) (by kernel_rfl) (by exact fun _ _ _ h => h) (by rfl) ?_ hS ?_
  rotate_left
  · ((intro w hSw; (try dsimp only at hSw); go_simp) <;> with_reducible rfl)
  (try simp only [Act.put, List.setIfInBounds_toArray, List.set_cons_zero, List.set_cons_succ])
  refine any_take (i := 1) (v := ?_) rfl (by kernel_rfl) (by kernel_rfl) (by kernel_rfl) (by exact fun _ _ _ h => h) (by rfl) ?_ hS ?_
  rotate_left
  · ((intro w hSw; (try dsimp only at hSw); go_simp) <;> with_reducible rfl)
  (try simp only [Act.put, List.setIfInBounds_toArray, List.set_cons_zero, List.set_cons_succ])
  refine any_take (i := 2) (v := ?_) rfl (by kernel_rfl) (by kernel_rfl) (by kernel_rfl) (by exact fun _ _ _ h => h) (by rfl) ?_ hS ?_
  rotate_left
  · ((intro w hSw; (try dsimp only at hSw); go_simp) <;> with_reducible rfl)
  (try simp only [Act.put, List.setIfInBounds_toArray, List.set_cons_zero, List.set_cons_succ])
  refine any_take (i := 3) (v := .map (some b)) rfl (by kernel_rfl) (by kernel_rfl) (by kernel_rfl) (by exact fun _ _ _ h => h) (by rfl) ?_ hS ?_
  · intro W hSW; have c := hSW.1; go_simp
  (try simp only [Act.put, List.setIfInBounds_toArray, List.set_cons_zero, List.set_cons_succ])
  refine any_take (i := 4) (v := ?_) rfl (by kernel_rfl) (by kernel_rfl) (by kernel_rfl) (by exact fun _ _ _ h => h) (by rfl) ?_ hS ?_
  rotate_left
  · ((intro w hSw; (try dsimp only at hSw); go_simp) <;> with_reducible rfl)
  (try simp only [Act.put, List.setIfInBounds_toArray, List.set_cons_zero, List.set_cons_succ])
  refine any_take (i := 5) (v := .int .i64 (a : Int)) rfl (by kernel_rfl) (by kernel_rfl) (by kernel_rfl) (by exact fun _ _ _ h => h) (by rfl) ?_ hS ?_
  · intro W hSW; have c := hSW.2.1; go_simp
  (try simp only [Act.put, List.setIfInBounds_toArray, List.set_cons_zero, List.set_cons_succ])
  refine any_one (i := 6) rfl (by kernel_rfl) (fun K hK => step_delete rfl rfl (by simpa [Act.eval] using hdel) ?_)
  refine hK.out _ _ hk ?_
  clear hK K hS
  (try simp only [Act.put])
  refine wpAnyH_done (by kernel_rfl) ?_ _
  clear hk
  go_wp2_with fail
  refine bodyPost_ret (results_none rfl _ _ _) rfl ?_
  exact ⟨rfl, F.out⟩
set_option maxHeartbeats 2000000 in
theorem change_some (g b : Nat) (m : Im) (a : Nat) (x : Option Addr) (len cap : Nat) (l : List (BitVec 8)) (w : World) (h : (im g b m).Ok w) (ha : a < 256) (hl : l.length = len) (h0 : len = 64) (hr : Row w x l) :
    Calls Try.prog 61 #[.pointer (some ⟨g, 0, none⟩), .agg #[.int .i64 a, .slice x len cap]] w fun e w' => e = .returned (.tuple #[]) ∧ Step w w' (im g b m) (im g b (chI m a l)) := by
  have b1 := box2_below w (.int .i64 (a : Int)) (.slice x len cap) 57
  obtain ⟨c0, c1⟩ := box_cells w (.int .i64 (a : Int)) (.slice x len cap) 57
  have hqg : g < w.heap.size := h.lt g (.inr (by simp [im]))
  have hqb : b < w.heap.size := h.lt b (.inl (by simp [im]))
  have ok1 := h.later b1
  have r1 := hr.later b1
  have B1 : Blk (w.alloc (.cells #[.int .i64 (a : Int), .slice x len cap] 57)) w.heap.size 57 [.int .i64 (a : Int), .slice x len cap] := Blk.new' w _ _
  have hz1 : (w.alloc (.cells #[.int .i64 (a : Int), .slice x len cap] 57)).heap.size = w.heap.size + 1 := by simp
  subst h0
  obtain ⟨y, off, rfl⟩ : ∃ y off, x = some ⟨y, off, none⟩ := by
    rcases hr with e | ⟨y, off, e, _⟩
    · rw [e] at hl; simp at hl
    · exact ⟨y, off, e⟩
  obtain ⟨w', hupd, hst⟩ := im_store ok1.drew a l (by unfold I64; omega)
  have hk := ch_keep hst (W := (w.alloc (.cells #[.int .i64 (a : Int), .slice (some ⟨y, off, none⟩) 64 cap] 57)).drew) B1 (by omega) (r1.later (Below.refl _ _).drew) ok1.drew
  have hcm : chI m a l = putI m a (some l) := by unfold chI; rw [if_neg (by intro e; rw [e] at hl; simp at hl)]
  rw [hcm]
  have cg := (im_cells ok1).2
  have F : Hid _ := (Step.quiet h b1).trans ((Step.quiet ok1 (Below.refl _ _).drew).trans hst)
  clear b1 hst h hr
  go_enter Try.func61, Try.ntmps61
  go_wp2_with fail
  generalize w.alloc (.cells #[.int .i64 (a : Int), .slice (some ⟨y, off, none⟩) 64 cap] 57) = w1 at *
  (try simp only [Act.put, List.setIfInBounds_toArray, List.set_cons_zero, List.set_cons_succ])
  refine wp_region_held_drew (S := fun W => W.cell? ⟨g, 1, none⟩ = some (.map (some b)) ∧ W.cell? ⟨w.heap.size, 0, none⟩ = some (.int .i64 (a : Int)) ∧ W.cell? ⟨w.heap.size, 1, none⟩ = some (.slice (some ⟨y, off, none⟩) 64 cap) ∧ Row W (some ⟨y, off, none⟩) l) (by kernel_rfl) ⟨cg, c0, c1, r1.later (Below.refl _ _).drew⟩ (fun hS => ?_)
  refine any_take (i := 0) (v := ?_) rfl (by kernel_rfl) (by kernel_rfl) (by kernel_rfl) (by exact fun _ _ _ h => h) (by rfl) ?_ hS ?_
  rotate_left
  · ((intro w hSw; (try dsimp only at hSw); go_simp) <;> with_reducible rfl)
  (try simp only [Act.put, List.setIfInBounds_toArray, List.set_cons_zero, List.set_cons_succ])
  refine any_take (i := 1) (v := ?_) rfl (by kernel_rfl) (by kernel_rfl) (by kernel_rfl) (by exact fun _ _ _ h => h) (by rfl) ?_ hS ?_
  rotate_left
  · ((intro w hSw; (try dsimp only at hSw); go_simp) <;> with_reducible rfl)
  (try simp only [Act.put, List.setIfInBounds_toArray, List.set_cons_zero, List.set_cons_succ])
  refine any_take (i := 2) (v := ?_) rfl (by kernel_rfl) (by kernel_rfl) (by kernel_rfl) (by exact fun _ _ _ h => h) (by rfl) ?_ hS ?_
  rotate_left
  · ((intro w hSw; (try dsimp only at hSw); go_simp) <;> with_reducible rfl)
  (try simp only [Act.put, List.setIfInBounds_toArray, List.set_cons_zero, List.set_cons_succ])
  refine any_take (i := 3) (v := .map (some b)) rfl (by kernel_rfl) (by kernel_rfl) (by kernel_rfl) (by exact fun _ _ _ h => h) (by rfl) ?_ hS ?_
  · intro W hSW; have c := hSW.1; go_simp
  (try simp only [Act.put, List.setIfInBounds_toArray, List.set_cons_zero, List.set_cons_succ])
  refine any_take (i := 4) (v := ?_) rfl (by kernel_rfl) (by kernel_rfl) (by kernel_rfl) (by exact fun _ _ _ h => h) (by rfl) ?_ hS ?_
  rotate_left
  · ((intro w hSw; (try dsimp only at hSw); go_simp) <;> with_reducible rfl)
  (try simp only [Act.put, List.setIfInBounds_toArray, List.set_cons_zero, List.set_cons_succ])
  refine any_take (i := 5) (v := .int .i64 (a : Int)) rfl (by kernel_rfl) (by kernel_rfl) (by kernel_rfl) (by exact fun _ _ _ h => h) (by rfl) ?_ hS ?_
  · intro W hSW; have c := hSW.2.1; go_simp
  (try simp only [Act.put, List.setIfInBounds_toArray, List.set_cons_zero, List.set_cons_succ])
  refine any_take (i := 6) (v := ?_) rfl (by kernel_rfl) (by kernel_rfl) (by kernel_rfl) (by exact fun _ _ _ h => h) (by rfl) ?_ hS ?_
  rotate_left
  · ((intro w hSw; (try dsimp only at hSw); go_simp) <;> with_reducible rfl)
  (try simp only [Act.put, List.setIfInBounds_toArray, List.set_cons_zero, List.set_cons_succ])
  refine any_take (i := 7) (v := .slice (some ⟨y, off, none⟩) 64 cap) rfl (by kernel_rfl) (by kernel_rfl) (by kernel_rfl) (by exact fun _ _ _ h => h) (by rfl) ?_ hS ?_
  · intro W hSW; have c := hSW.2.2.1; go_simp
  (try simp only [Act.put, List.setIfInBounds_toArray, List.set_cons_zero, List.set_cons_succ])
  refine any_take (i := 8) (v := .pointer (some ⟨y, off, none⟩)) rfl (by kernel_rfl) (by kernel_rfl) (by kernel_rfl) (by exact fun _ _ _ h => h) (by rfl) ?_ hS ?_
  · intro W hSW; simp [execOp, Act.eval, Instr.arrayAt, run_underlying und_blk]
  (try simp only [Act.put, List.setIfInBounds_toArray, List.set_cons_zero, List.set_cons_succ])
  refine any_take (i := 9) (v := arrV l) rfl (by kernel_rfl) (by kernel_rfl) (by kernel_rfl) (by exact fun _ _ _ h => h) (by rfl) ?_ hS ?_
  · intro W hSW; exact exec_load rfl rfl (load_blk hSW.2.2.2 hl)
  (try simp only [Act.put, List.setIfInBounds_toArray, List.set_cons_zero, List.set_cons_succ])
  refine any_one (i := 10) rfl (by kernel_rfl) (fun K hK => step_update rfl rfl (by simpa [Act.eval] using hupd) ?_)
  refine hK.out _ _ hk ?_
  clear hK K hS
  (try simp only [Act.put])
  refine wpAnyH_done (by kernel_rfl) ?_ _
  clear hk
  go_wp2_with fail
  go_end0
  exact ⟨rfl, F.out⟩
end Go.Proofs.Ytmkacgdbmojomaa

/- Several changes, wholly or not at all. -/
namespace Go.Proofs.Ytmkacgdbmojomaa
open Go.RowKit Go.MapKept Go.ChangeMaps
set_option linter.unusedVariables false
set_option maxRecDepth 4000

/-- changes as they lie in memory -/
structure CAt (W : World) (p off i : Nat) (r : Int × List (BitVec 8)) : Prop where
  num : I64 r.1
  lba : W.cell? ⟨p, off + i * 2, none⟩ = some (.int .i64 r.1)
  data : ∃ x c, W.cell? ⟨p, off + i * 2 + 1, none⟩ = some (.slice x r.2.length c) ∧ Row W x r.2
  len : r.2.length ≤ 140737488355328
def CArgs (W : World) (a : Option Addr) (l : List (Int × List (BitVec 8))) : Prop := l = [] ∨ ∃ p off, a = some ⟨p, off, none⟩ ∧ ∀ i (hi : i < l.length), CAt W p off i l[i]
theorem cell_lt {W : World} {y o : Nat} {v : Value} (hc : W.cell? ⟨y, o, none⟩ = some v) : y < W.heap.size := by
  rcases Nat.lt_or_ge y W.heap.size with h | h
  · exact h
  · simp [World.cell?, Array.getElem?_eq_none h] at hc
theorem CAt.turned {W W' : World} {p off i : Nat} {r : Int × List (BitVec 8)} {g b : Nat} {m : Im} (h : CAt W p off i r) (hok : (im g b m).Ok W) (ht : Turned (· ∈ (im g b m).W) W W') : CAt W' p off i r := by
  have hp := cells_not_map hok h.lba
  have hb : W'.heap[p]? = W.heap[p]? := ht.block p (cell_lt h.lba) (by simp [im]; exact hp)
  obtain ⟨x, c, h1, h2⟩ := h.data
  refine ⟨h.num, (World.cell?_of_block (w := W) (a := ⟨p, off + i * 2, none⟩) hb).trans h.lba, ⟨x, c, (World.cell?_of_block (w := W) (a := ⟨p, off + i * 2 + 1, none⟩) hb).trans h1, ?_⟩, h.len⟩
  rcases h2 with e | ⟨y, o, rfl, hc⟩
  · exact .inl e
  · by_cases hl : r.2.length = 0
    · exact .inl (List.eq_nil_of_length_eq_zero hl)
    · have h0 := hc 0 (by omega)
      exact Row.same (.inr ⟨y, o, rfl, hc⟩) (fun z hz => by cases hz; exact ht.block y (cell_lt h0) (by simp [im]; exact cells_not_map hok h0))
theorem CArgs.turned {W W' : World} {a : Option Addr} {l : List (Int × List (BitVec 8))} {g b : Nat} {m : Im} (h : CArgs W a l) (hok : (im g b m).Ok W) (ht : Turned (· ∈ (im g b m).W) W W') : CArgs W' a l := by
  rcases h with h | ⟨p, off, rfl, h⟩
  · exact .inl h
  · exact .inr ⟨p, off, rfl, fun i hi => (h i hi).turned hok ht⟩
def canAll (n : Nat) (l : List (Int × List (BitVec 8))) : Bool := l.all (fun r => canB n r.1 r.2.length)
def chAll (m : Im) (l : List (Int × List (BitVec 8))) : Im := l.foldl (fun m r => chI m r.1.toNat r.2) m
theorem chAll_n (m : Im) (l : List (Int × List (BitVec 8))) : (chAll m l).n = m.n := by
  unfold chAll
  induction l generalizing m with
  | nil => rfl
  | cons r l ih => exact ih (chI m r.1.toNat r.2)
theorem chAll_snoc (m : Im) (l : List (Int × List (BitVec 8))) (r : Int × List (BitVec 8)) : chAll m (l ++ [r]) = chI (chAll m l) r.1.toNat r.2 := by unfold chAll; rw [List.foldl_append]; rfl
theorem canB_yes {n : Nat} {a : Int} {len : Nat} (h : canB n a len = true) : ∃ x : Nat, a = x ∧ x < n ∧ (len = 0 ∨ len = 64) := by
  unfold canB at h
  rw [Bool.and_eq_true] at h
  obtain ⟨x, y, hx, hy, hxy⟩ := spansB_yes h.1
  refine ⟨x, hx, by omega, ?_⟩
  have := h.2
  simp at this
  exact this
/-- one change that can be -/
theorem change_any (g b : Nat) (m : Im) (r : Int × List (BitVec 8)) (x : Option Addr) (cap : Nat) (w : World) (h : (im g b m).Ok w) (hw : m.Wf) (hc : canB m.n r.1 r.2.length = true) (hr : Row w x r.2) :
    Calls Try.prog 61 #[.pointer (some ⟨g, 0, none⟩), .agg #[.int .i64 r.1, .slice x r.2.length cap]] w fun e w' => e = .returned (.tuple #[]) ∧ Step w w' (im g b m) (im g b (chI m r.1.toNat r.2)) := by
  obtain ⟨q, hq, hqn, h0⟩ := canB_yes hc
  have hm := hw.most
  obtain ⟨ra, rl⟩ := r
  simp only at hq h0 hr ⊢
  subst hq
  rw [Int.toNat_natCast]
  rcases h0 with h0 | h0
  · exact change_none g b m q x rl.length cap rl w h (by omega) rfl h0 hr
  · exact change_some g b m q x rl.length cap rl w h (by omega) rfl h0 hr
theorem chI_wf {m : Im} (h : m.Wf) {r : Int × List (BitVec 8)} (hc : canB m.n r.1 r.2.length = true) : (chI m r.1.toNat r.2).Wf := by
  obtain ⟨q, hq, hqn, h0⟩ := canB_yes hc
  unfold chI
  refine putI_wf h (by rw [hq, Int.toNat_natCast]; exact hqn) (fun l hl => ?_)
  split at hl
  · cases hl
  · rename_i hne
    cases hl
    rcases h0 with h0 | h0
    · exact absurd (List.eq_nil_of_length_eq_zero h0) hne
    · exact h0
theorem chAll_wf {m : Im} (h : m.Wf) {l : List (Int × List (BitVec 8))} (hc : canAll m.n l = true) : (chAll m l).Wf := by
  unfold chAll
  induction l generalizing m with
  | nil => exact h
  | cons r l ih =>
    unfold canAll at hc
    rw [List.all_cons, Bool.and_eq_true] at hc
    exact ih (chI_wf h hc.1) hc.2
end Go.Proofs.Ytmkacgdbmojomaa

/- Change: all changes of a list, or none. -/
namespace Go.Proofs.Ytmkacgdbmojomaa
open Go.RowKit Go.MapKept Go.ChangeMaps
set_option linter.unusedVariables false
set_option maxRecDepth 4000

theorem canAll_take {n : Nat} {l : List (Int × List (BitVec 8))} {k : Nat} (hk : k < l.length) (h : canAll n (l.take k) = true) : canAll n (l.take (k + 1)) = canB n l[k].1 l[k].2.length := by
  rw [← List.take_append_getElem hk]
  unfold canAll at *
  rw [List.all_append, h]
  simp
theorem canAll_false {n : Nat} {l : List (Int × List (BitVec 8))} {k : Nat} (hk : k < l.length) (h : canB n l[k].1 l[k].2.length = false) : canAll n l = false := by
  unfold canAll
  rw [List.all_eq_false]
  exact ⟨l[k], List.getElem_mem hk, by rw [h]; simp⟩
theorem canAll_at {n : Nat} {l : List (Int × List (BitVec 8))} {k : Nat} (hk : k < l.length) (h : canAll n l = true) : canB n l[k].1 l[k].2.length = true := List.all_eq_true.1 h _ (List.getElem_mem hk)
theorem canAll_pre {n : Nat} {l : List (Int × List (BitVec 8))} {k : Nat} (h : canAll n l = true) : canAll n (l.take k) = true := by
  unfold canAll at *
  rw [List.all_eq_true] at *
  exact fun r hr => h r (List.mem_of_mem_take hr)

set_option maxHeartbeats 2000000 in
theorem imChange_any (g b : Nat) (m : Im) (a : Option Addr) (len cap : Nat) (l : List (Int × List (BitVec 8))) (w : World) (h : (im g b m).Ok w) (hw : m.Wf) (hl : l.length = len) (hlc : len ≤ cap) (hlen : len ≤ 140737488355328) (hc : CArgs w a l) :
    Calls Try.prog 26 #[.pointer (some ⟨g, 0, none⟩), .slice a len cap] w fun e w' =>
      (canAll m.n l = true ∧ e = .returned (.int .i64 0) ∧ Step w w' (im g b m) (im g b (chAll m l))) ∨ (canAll m.n l = false ∧ e = .returned (.int .i64 1) ∧ Below w.heap.size w w') := by
  subst hl
  have HH : Hid _ := And.intro h (And.intro hw hc)
  have hlI : (l.length : Int) ≤ 140737488355328 := by omega
  clear h hw hc
  go_enter Try.func26, Try.ntmps26
  go_wp2_with fail
  go_loopw [13] (fun p wr => ∃ k : Nat, k ≤ l.length ∧ p = .int .i64 k ∧ canAll m.n (l.take k) = true ∧ Below w.heap.size w wr) (fun p _ => l.length - (intOf p).toNat)
  case atStart => exact ⟨0, Nat.zero_le _, rfl, rfl, Below.refl _ _⟩
  case round =>
    obtain ⟨k, hk, rfl, hcan, hb⟩ := hrel
    by_cases hlt : k < l.length
    · have q1 : (k : Int) < (l.length : Int) := by omega
      have hokr := HH.out.1.later hb
      obtain ⟨p, off, rfl, hC⟩ : ∃ p off, a = some ⟨p, off, none⟩ ∧ CAt wr p off k l[k] := by
        rcases HH.out.2.2 with e | ⟨p, off, e, hC⟩
        · rw [e] at hlt; simp at hlt
        · exact ⟨p, off, e, (hC k hlt).turned HH.out.1 ((turned_below hb).mono (fun _ h => h.elim))⟩
      have hnext := canAll_take (n := m.n) hlt hcan
      have hfalse := fun e => canAll_false (n := m.n) hlt e
      generalize l[k] = r at *
      obtain ⟨x, c, d1, hrow⟩ := hC.data
      have d0 := hC.lba
      have bx := box2_below wr (.int .i64 r.1) (.slice x r.2.length c) 57
      obtain ⟨e0, e1⟩ := box_cells wr (.int .i64 r.1) (.slice x r.2.length c) 57
      have HB := canBe_any g b m r.1 x r.2.length c _ (hokr.later bx) HH.out.2.1 hC.num hC.len
      have H1 : Hid _ := And.intro hb (And.intro bx (And.intro hnext hfalse))
      clear hokr hC hrow hb bx hnext hfalse hcan
      cases hcb : canB m.n r.1 r.2.length with
      | true =>
        rw [hcb] at HB
        have HB' : Hid _ := HB
        clear HB
        go_wp2_with fail
        refine (Calls.mono HB'.out) ?_
        rintro e w2 ⟨rfl, b2⟩
        have F : Hid _ := And.intro (show canAll m.n (l.take (k + 1)) = true by rw [H1.out.2.2.1, hcb]) (below_then (below_then H1.out.1 H1.out.2.1) b2)
        clear b2 H1 HB' d0 d1 e0 e1 hcb
        go_wp2_with fail
        exact ⟨⟨k + 1, by omega, by go_num, F.out.1, F.out.2⟩, by simp [intOf]; omega⟩
      | false =>
        rw [hcb] at HB
        have HB' : Hid _ := HB
        clear HB
        go_wp2_with fail
        refine (Calls.mono HB'.out) ?_
        rintro e w2 ⟨rfl, b2⟩
        have F : Hid _ := And.intro (H1.out.2.2.2 hcb) (below_then (below_then H1.out.1 H1.out.2.1) b2)
        clear b2 H1 HB' d0 d1 e0 e1 hcb
        go_wp2
        go_ret
        exact .inr ⟨F.out.1, rfl, F.out.2⟩
    · obtain rfl : k = l.length := by omega
      rw [List.take_length] at hcan
      have H2 : Hid _ := And.intro hcan (And.intro (Step.quiet HH.out.1 hb) (HH.out.2.2.turned HH.out.1 ((turned_below hb).mono (fun _ h => h.elim))))
      clear hcan hb
      go_wp2_with fail
      go_loopw [24] (fun p w2 => ∃ k : Nat, k ≤ l.length ∧ p = .int .i64 k ∧ Step w w2 (im g b m) (im g b (chAll m (l.take k))) ∧ CArgs w2 a l) (fun p _ => l.length - (intOf p).toNat)
      case atStart => exact ⟨0, Nat.zero_le _, rfl, H2.out.2.1, H2.out.2.2⟩
      case round =>
        obtain ⟨k, hk, rfl, hst, hC0⟩ := hrel
        by_cases hlt : k < l.length
        · have q1 : (k : Int) < (l.length : Int) := by omega
          obtain ⟨p, off, rfl, hC⟩ : ∃ p off, a = some ⟨p, off, none⟩ ∧ CAt wr p off k l[k] := by
            rcases hC0 with e | ⟨p, off, e, hC⟩
            · rw [e] at hlt; simp at hlt
            · exact ⟨p, off, e, hC k hlt⟩
          have hcb := canAll_at (n := m.n) hlt H2.out.1
          have htk : chAll m (l.take (k + 1)) = chI (chAll m (l.take k)) l[k].1.toNat l[k].2 := by rw [← List.take_append_getElem hlt, chAll_snoc]
          have hwf := chAll_wf HH.out.2.1 (canAll_pre (k := k) H2.out.1)
          have hn := chAll_n m (l.take k)
          rw [htk.symm] at htk
          generalize hr : l[k] = r at *
          obtain ⟨x, c, d1, hrow⟩ := hC.data
          have d0 := hC.lba
          have bx := box2_below wr (.int .i64 r.1) (.slice x r.2.length c) 57
          obtain ⟨e0, e1⟩ := box_cells wr (.int .i64 r.1) (.slice x r.2.length c) 57
          have hok := hst.ok.later bx
          have HB : Hid _ := change_any g b (chAll m (l.take k)) r x c _ hok hwf (by rw [hn]; exact hcb) (hrow.later bx)
          have htk' : chI (chAll m (l.take k)) r.1.toNat r.2 = chAll m (l.take (k + 1)) := by rw [← List.take_append_getElem hlt, chAll_snoc, hr]
          rw [htk'] at HB
          have hC1 : CArgs (wr.alloc (.cells #[.int .i64 r.1, .slice x r.2.length c] 57)) (some ⟨p, off, none⟩) l := hC0.turned hst.ok ((turned_below bx).mono (fun _ h => h.elim))
          have H3 : Hid _ := And.intro (hst.trans (Step.quiet hst.ok bx)) (And.intro hC1 hok)
          clear hst hC0 hC hcb htk htk' hwf hn hrow bx hok hC1 hr
          go_wp2_with fail
          refine (Calls.mono HB.out) ?_
          rintro e w2 ⟨rfl, st2⟩
          have F : Hid _ := And.intro (H3.out.1.trans st2) (H3.out.2.1.turned H3.out.2.2 st2.turned)
          clear st2 H3 HB d0 d1 e0 e1
          go_wp2_with fail
          exact ⟨⟨k + 1, by omega, by go_num, F.out.1, F.out.2⟩, by simp [intOf]; omega⟩
        · obtain rfl : k = l.length := by omega
          rw [List.take_length] at hst
          have F : Hid _ := And.intro H2.out.1 hst
          clear hst hC0
          go_wp2
          go_ret
          exact .inl ⟨F.out.1, rfl, F.out.2⟩
end Go.Proofs.Ytmkacgdbmojomaa

/- Blocks held against each other. -/
namespace Go.Proofs.Ytmkacgdbmojomaa
open Go.RowKit Go.MapKept Go.ChangeMaps
set_option linter.unusedVariables false
set_option maxRecDepth 4000

theorem eqItems_blk (a b : List (BitVec 8)) (w : World) : ∀ (L : List Nat), (∀ i ∈ L, i < a.length ∧ i < b.length) →
    (Op.eqItems 9999 5 1 (vals a).toArray (vals b).toArray L).run Try.prog w = .ok (L.all (fun i => decide (bt a i = bt b i))) w
  | [], _ => rfl
  | i :: L, h => by
    obtain ⟨h1, h2⟩ := h i (by simp)
    have p1 : (part 5 (vals a).toArray (i * 1)).run Try.prog w = .ok (.int .u8 (bt a i)) w := run_part_plain w plain_u8 (by rw [Nat.mul_one]; simpa using vals_at a i h1)
    have p2 : (part 5 (vals b).toArray (i * 1)).run Try.prog w = .ok (.int .u8 (bt b i)) w := run_part_plain w plain_u8 (by rw [Nat.mul_one]; simpa using vals_at b i h2)
    have he := run_equalIn_int (P := Try.prog) w 9998 5 .u8 .u8 (bt a i) (bt b i) Try.underlying5
    have ih := eqItems_blk a b w L (fun j hj => h j (List.mem_cons_of_mem _ hj))
    simp only [Op.eqItems, Sem.run_bind, p1, p2, he, Result.andThen_ok, List.all_cons]
    by_cases e : bt a i = bt b i
    · simp [e, ih]
    · have : (bt a i == bt b i) = false := by simpa using e
      simp [this, e]
theorem bt_ext {a b : List (BitVec 8)} (hl : a.length = b.length) (h : ∀ i, i < a.length → bt a i = bt b i) : a = b := by
  apply List.ext_getElem hl
  intro i h1 h2
  have := h i h1
  unfold bt at this
  rw [List.getD, List.getD, List.getElem?_eq_getElem h1, List.getElem?_eq_getElem h2] at this
  simp only [Option.getD_some] at this
  exact BitVec.eq_of_toNat_eq (by omega)
theorem equal_blk (a b : List (BitVec 8)) (ha : a.length = 64) (hb : b.length = 64) (w : World) :
    (Op.equalIn 10000 77 (arrV a) (arrV b)).run Try.prog w = .ok (decide (a = b)) w := by
  obtain ⟨i, hi, -, -, -⟩ := info_parts info_u8
  unfold arrV
  rw [run_equalIn_array w 9999 (e := 5) (n := 64) (i := i) _ _ und_blk hi, cells_u8, eqItems_blk a b w (List.range 64) (fun i hi => by have := List.mem_range.1 hi; omega)]
  congr 1
  rw [Bool.eq_iff_iff, List.all_eq_true]
  simp only [decide_eq_true_eq, List.mem_range]
  exact ⟨fun h => bt_ext (by omega) (fun i hi => h i (by omega)), fun h i _ => by rw [h]⟩
end Go.Proofs.Ytmkacgdbmojomaa
