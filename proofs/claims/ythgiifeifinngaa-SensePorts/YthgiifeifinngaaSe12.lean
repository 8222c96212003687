/- sense: numbers of the call's own; same; States, the program's. -/
import Derived.Test.YthgiifeifinngaaSe8
import Derived.Test.YthgiifeifinngaaSe11
import Derived.Maps.AppendAt
namespace Go.Proofs.Ythgiifeifinngaa
open Go.RowKit
set_option linter.unusedVariables false
set_option linter.unusedSimpArgs false
set_option maxRecDepth 4000

def icells (l : List Int) : List Value := l.map fun c => .int .i64 c
theorem icells_append (a b : List Int) : icells (a ++ b) = icells a ++ icells b := List.map_append
theorem icells_at (l : List Int) (i : Nat) (h : i < l.length) : (icells l)[i]? = some (.int .i64 l[i]) := by unfold icells; rw [List.getElem?_map, List.getElem?_eq_getElem h]; rfl
/-- numbers of the call's own -/
def INum (w : World) (base : Nat) (v : Value) (l : List Int) : Prop := w.ownsRow base 3 1 v l.length (icells l)
theorem INum.nil (w : World) (base : Nat) : INum w base (.slice none 0 0) [] := World.ownsRow_nil w base _ 1
theorem INum.later {w w' : World} {base : Nat} {v : Value} {l : List Int} (h : INum w base v l) (hb : Below w.heap.size w w') : INum w' base v l := by
  obtain ⟨h1, h2 | ⟨g, cap, cur, e, hg, hh, hc, hm, hs, ht⟩⟩ := id h
  · exact ⟨h1, .inl h2⟩
  · refine ⟨h1, .inr ⟨g, cap, cur, e, hg, ?_, hc, hm, hs, ht⟩⟩
    have hlt := (World.ownsRow.lt h g (by rw [e]; rfl)).2
    rw [hb.block g hlt]; exact hh
theorem INum.arg {w : World} {base : Nat} {v : Value} {l : List Int} (h : INum w base v l) (hw : ∀ n ∈ l, (Lit.int .i64 n).wf = true) : ∃ a c, v = .slice a l.length c ∧ VArg .i64 w a l.length c l := by
  have h0 := h
  obtain ⟨h1, ⟨h2, h3⟩ | ⟨g, cap, cur, rfl, hb, hh, hc, hm, hs, ht⟩⟩ := h
  · exact ⟨none, 0, by rw [h2, h3], rfl, by omega, by simp, (fun hn => absurd h3 hn), hw⟩
  · refine ⟨_, cap, rfl, rfl, hc, hm, fun _ => ⟨g, 0, rfl, fun i hi => ?_⟩, hw⟩
    rw [Nat.zero_add, World.ownsRow.cellAt h0 _ (by omega)]; exact icells_at l i hi
theorem io_block {w : World} {base : Nat} {v : Value} {l : List Int} (h : INum w base v l) : ∀ k, v.ownBlock = some k → base ≤ k := fun k hk => (World.ownsRow.lt h k hk).1
theorem info_i64b : (Try.prog.info? 3).map (fun i => (i.zero, i.size, i.bytes)) = some (some (.int .i64 0), 1, 8) := by kernel_rfl
theorem wpList_append_inum (w : World) {ops : Array Oper} {rest : List Oper} {o : Oper} {a : Act} {Q : Exit → Act → World → Prop} (hg : o.guard = none) (s x : Operand)
    (ho : o.op = .call { callee := .builtin .append, args := #[s, x], argTypes := #[44, 44] }) (base : Nat) (v : Value) (l : List Int) (hs : a.eval s = v) (hown : INum w base v l)
    (k : Nat) (u : Int) (hx : a.eval x = .slice (some ⟨k, 0, none⟩) 1 1) (hB : Blk w k 3 [.int .i64 u]) (hmax : l.length ≤ 17000000000000) (hbase : base ≤ w.heap.size)
    (next : ∀ (v' : Value) (w' : World), INum w' base v' (l ++ [u]) → w.grownBy w' v.ownBlock → wpList Try.prog ops Q rest (a.put o.dst v') w') : wpList Try.prog ops Q (o :: rest) a w := by
  obtain ⟨i0, hi, hz0, hz1, hz2⟩ := info_parts info_i64b
  have c0 := bk_at hB 0
  simp at c0
  refine wpList_append_own w hg s x 44 ho base 3 i0 (.int .i64 0) 1 8 Try.underlying44 hi hz0 hz1 hz2 rfl (by decide) v l.length (icells l) hs hown ⟨k, 0, none⟩ 1 1 [.int .i64 u] hx rfl
    (fun j y hj => by
      match j, hj with
      | 0, hj => simp at hj; subst hj; simpa [Addr.add] using c0)
    (fun y hy => by simp at hy; subst hy; rfl) (by unfold maxLen; omega) (by omega) hbase ?_
  intro v' w' h2 h3 _
  refine next v' w' ?_ h3
  unfold INum
  rw [List.length_append, icells_append]
  exact h2
set_option maxHeartbeats 1000000 in
theorem same16_yes (a b : Option Addr) (ca cb : Nat) (l : List Int) (w : World) (V : VArg .i64 w a l.length ca l) (U : VArg .i64 w b l.length cb l) :
    Calls Try.prog 30 #[.slice a l.length ca, .slice b l.length cb] w fun e w' => e = .returned (.bool true) ∧ Below w.heap.size w w' := by
  have hm : l.length ≤ 9223372036854775807 := by have := Nat.le_trans V.le V.most; simpa [maxLen] using this
  have HV : Hid _ := And.intro V U
  clear V U
  go_enter Try.func30, Try.ntmps30
  go_wp2_with fail
  go_loopw [5] (fun iv wr => ∃ k : Nat, k ≤ l.length ∧ iv = .int .i64 k ∧ Below w.heap.size w wr) (fun iv _ => l.length - (intOf iv).toNat)
  case atStart => exact ⟨0, by omega, rfl, Below.refl _ _⟩
  case round =>
    obtain ⟨k, hk, rfl, hb⟩ := hrel
    by_cases hlt : k < l.length
    · obtain ⟨ba, oa, rfl, hca⟩ := HV.out.1.each (by omega)
      obtain ⟨bb, ob, rfl, hcb⟩ := HV.out.2.each (by omega)
      have HC : Hid _ := And.intro (cl_later (hca k hlt) hb) (cl_later (hcb k hlt) hb)
      have q1 : (k : Int) < (l.length : Int) := by omega
      have v3 : (k : Int).toNat = k := by omega
      have v0 : (0 : Int) ≤ (k : Int) := by omega
      have HB : Hid _ := hb
      clear hca hcb hb
      generalize l[k] = X at *
      go_upto_region 6 with fail
      refine wp_region_held_drew (S := fun W => Below wr.heap.size wr W) (by kernel_rfl) ((Below.refl _ _).drew) (fun hS => ?_)
      refine any_take (i := 0) (v := ?_) rfl (by kernel_rfl) (by kernel_rfl) (by kernel_rfl) (by exact fun _ _ _ h => h) (by rfl) ?_ hS ?_
      rotate_left
      · ((intro w hSw; have c1 := cl_later HC.out.1 hSw; have c2 := cl_later HC.out.2 hSw; go_simp) <;> with_reducible rfl)
      (try simp only [Act.put, List.setIfInBounds_toArray, List.set_cons_zero, List.set_cons_succ])
      refine any_take (i := 1) (v := ?_) rfl (by kernel_rfl) (by kernel_rfl) (by kernel_rfl) (by exact fun _ _ _ h => h) (by rfl) ?_ hS ?_
      rotate_left
      · ((intro w hSw; have c1 := cl_later HC.out.1 hSw; have c2 := cl_later HC.out.2 hSw; go_simp) <;> with_reducible rfl)
      (try simp only [Act.put, List.setIfInBounds_toArray, List.set_cons_zero, List.set_cons_succ])
      refine any_take (i := 2) (v := ?_) rfl (by kernel_rfl) (by kernel_rfl) (by kernel_rfl) (by exact fun _ _ _ h => h) (by rfl) ?_ hS ?_
      rotate_left
      · ((intro w hSw; have c1 := cl_later HC.out.1 hSw; have c2 := cl_later HC.out.2 hSw; go_simp) <;> with_reducible rfl)
      (try simp only [Act.put, List.setIfInBounds_toArray, List.set_cons_zero, List.set_cons_succ])
      refine any_take (i := 3) (v := ?_) rfl (by kernel_rfl) (by kernel_rfl) (by kernel_rfl) (by exact fun _ _ _ h => h) (by rfl) ?_ hS ?_
      rotate_left
      · ((intro w hSw; have c1 := cl_later HC.out.1 hSw; have c2 := cl_later HC.out.2 hSw; go_simp) <;> with_reducible rfl)
      (try simp only [Act.put, List.setIfInBounds_toArray, List.set_cons_zero, List.set_cons_succ])
      refine any_take (i := 4) (v := ?_) rfl (by kernel_rfl) (by kernel_rfl) (by kernel_rfl) (by exact fun _ _ _ h => h) (by rfl) ?_ hS ?_
      rotate_left
      · ((intro w hSw; have c1 := cl_later HC.out.1 hSw; have c2 := cl_later HC.out.2 hSw; go_simp) <;> with_reducible rfl)
      (try simp only [Act.put, List.setIfInBounds_toArray, List.set_cons_zero, List.set_cons_succ])
      refine any_take (i := 5) (v := ?_) rfl (by kernel_rfl) (by kernel_rfl) (by kernel_rfl) (by exact fun _ _ _ h => h) (by rfl) ?_ hS ?_
      rotate_left
      · ((intro w hSw; have c1 := cl_later HC.out.1 hSw; have c2 := cl_later HC.out.2 hSw; go_simp) <;> with_reducible rfl)
      (try simp only [Act.put, List.setIfInBounds_toArray, List.set_cons_zero, List.set_cons_succ])
      refine any_take (i := 6) (v := ?_) rfl (by kernel_rfl) (by kernel_rfl) (by kernel_rfl) (by exact fun _ _ _ h => h) (by rfl) ?_ hS ?_
      rotate_left
      · ((intro w hSw; have c1 := cl_later HC.out.1 hSw; have c2 := cl_later HC.out.2 hSw; go_simp) <;> with_reducible rfl)
      (try simp only [Act.put, List.setIfInBounds_toArray, List.set_cons_zero, List.set_cons_succ])
      refine any_take (i := 7) (v := ?_) rfl (by kernel_rfl) (by kernel_rfl) (by kernel_rfl) (by exact fun _ _ _ h => h) (by rfl) ?_ hS ?_
      rotate_left
      · ((intro w hSw; have c1 := cl_later HC.out.1 hSw; have c2 := cl_later HC.out.2 hSw; go_simp) <;> with_reducible rfl)
      (try simp only [Act.put, List.setIfInBounds_toArray, List.set_cons_zero, List.set_cons_succ])
      refine any_take (i := 8) (v := ?_) rfl (by kernel_rfl) (by kernel_rfl) (by kernel_rfl) (by exact fun _ _ _ h => h) (by rfl) ?_ hS ?_
      rotate_left
      · ((intro w hSw; have c1 := cl_later HC.out.1 hSw; have c2 := cl_later HC.out.2 hSw; go_simp) <;> with_reducible rfl)
      (try simp only [Act.put, List.setIfInBounds_toArray, List.set_cons_zero, List.set_cons_succ])
      refine wpAnyH_done (by kernel_rfl) ?_ _
      have F : Hid _ := below_then HB.out hS
      clear hS HC HB
      go_wp2
      go_roundw
      case rel => exact ⟨k + 1, by omega, by go_num, F.out⟩
      case measure => simp [intOf]; omega
    · have q1 : ¬ (k : Int) < (l.length : Int) := by omega
      have F : Hid _ := hb
      clear hb
      go_wp2
      go_ret
      exact ⟨rfl, F.out⟩
/-- the states that stand in bytes, as many as are looked at -/
def sts (l : List (BitVec 8)) (k : Nat) : List Int := (List.range k).map (fun j => bt l (4 + 12 * j))
theorem sts_len (l : List (BitVec 8)) (k : Nat) : (sts l k).length = k := by simp [sts]
theorem sts_more (l : List (BitVec 8)) (k : Nat) : sts l (k + 1) = sts l k ++ [bt l (4 + 12 * k)] := by simp [sts, List.range_succ]
theorem sts_wf (l : List (BitVec 8)) (k : Nat) : ∀ n ∈ sts l k, (Lit.int .i64 n).wf = true := by
  intro n hn
  simp only [sts, List.mem_map] at hn
  obtain ⟨j, -, rfl⟩ := hn
  have := bt_bd l (4 + 12 * j)
  simp [Lit.wf, IntKind.min, IntKind.max, IntKind.signed, IntKind.bits]
  omega
def stK (n : Nat) : Nat := (n - 4 + 11) / 12
def stS (l : List (BitVec 8)) : Bool := decide (l.length < 4 ∨ l.length - 4 < (numTo l 0 4).toNat)
def stG (l : List (BitVec 8)) (k : Nat) : Bool := decide (ptE (sts l k) = 0) && decide (ptB (sts l k) = l)
def ssE (l : List (BitVec 8)) (k : Nat) : Int := if stS l = true then 10 else if stG l k = true then 0 else 11
def ssL (l : List (BitVec 8)) (k : Nat) : List Int := if ssE l k = 0 then sts l k else []
theorem ss_10 {l : List (BitVec 8)} {k : Nat} (h : stS l = true) : Hid (ssE l k = 10 ∧ ssL l k = []) := by
  have e : ssE l k = 10 := if_pos h
  exact ⟨e, if_neg (by rw [e]; decide)⟩
theorem ss_11 {l : List (BitVec 8)} {k : Nat} (h : stS l = false) (hg : stG l k = false) : Hid (ssE l k = 11 ∧ ssL l k = []) := by
  have e : ssE l k = 11 := by unfold ssE; rw [if_neg (by rw [h]; decide), if_neg (by rw [hg]; decide)]
  exact ⟨e, if_neg (by rw [e]; decide)⟩
theorem ss_0 {l : List (BitVec 8)} {k : Nat} (h : stS l = false) (hg : stG l k = true) : Hid (ssE l k = 0 ∧ ssL l k = sts l k) := by
  have e : ssE l k = 0 := by unfold ssE; rw [if_neg (by rw [h]; decide), if_pos hg]
  exact ⟨e, if_pos e⟩
theorem ptE_cases (l : List Int) : ptE l = 0 ∨ ptE l = 1 ∨ ptE l = 3 := by
  unfold ptE
  split
  · exact .inr (.inr rfl)
  · split
    · exact .inl rfl
    · exact .inr (.inl rfl)
set_option maxHeartbeats 2000000 in
theorem states_any (a : Option Addr) (c : Nat) (l : List (BitVec 8)) (w : World) (hr : Row w a l) (hlen : l.length ≤ 140737488351232) :
    Calls Try.prog 28 #[.slice a l.length c] w fun e w' => ∃ z, e = .returned (.tuple #[z, .int .i64 (ssE l (stK l.length))]) ∧ INum w' w.heap.size z (ssL l (stK l.length)) ∧ Below w.heap.size w w' := by
  by_cases h4 : l.length < 4
  · have e1 := ss_10 (l := l) (k := stK l.length) (decide_eq_true (.inl h4))
    have HG : Hid _ := Get_no a l.length c 0 4 w (by omega) (decide_eq_false (by omega))
    clear hr h4
    go_enter Try.func28, Try.ntmps28
    go_wp2_with fail
    refine (Calls.mono HG.out) ?_
    rintro e x9 ⟨rfl, hx9⟩
    rw [hx9]
    clear hx9 x9 HG
    go_wp2
    go_ret2
    refine ⟨.slice none 0 0, by rw [e1.out.1]; try rfl, ?_, Below.refl _ _⟩
    rw [e1.out.2]; exact INum.nil _ _
  have HG : Hid _ := Get_yes a l.length c l 0 4 w rfl (by omega) hr (by omega) (by omega) (by omega)
  have hS0 : stS l = decide (l.length < 4 ∨ l.length - 4 < (numTo l 0 4).toNat) := rfl
  generalize (numTo l 0 4).toNat = F at *
  have v1 : IntKind.i64.wrap ((l.length : Int) - 4) = (l.length : Int) - 4 := by rw [IntKind.wrap_i64]; omega
  have v2 : IntKind.u64.wrap ((l.length : Int) - 4) = (l.length : Int) - 4 := by simp [IntKind.wrap, IntKind.signed, IntKind.bits]; omega
  have HR : Hid _ := hr
  clear hr
  by_cases hF : l.length - 4 < F
  · have e1 := ss_10 (l := l) (k := stK l.length) (hS0.trans (decide_eq_true (.inr hF)))
    have d1 : (F : Int) > (l.length : Int) - 4 := by omega
    clear hF hS0
    go_enter Try.func28, Try.ntmps28
    go_wp2_with fail
    refine (Calls.mono HG.out) ?_
    rintro e x9 ⟨rfl, hx9⟩
    rw [hx9]
    clear hx9 x9 HG
    go_wp2
    go_ret2
    refine ⟨.slice none 0 0, by rw [e1.out.1]; try rfl, ?_, Below.refl _ _⟩
    rw [e1.out.2]; exact INum.nil _ _
  have hS : Hid (stS l = false) := hS0.trans (decide_eq_false (by omega))
  have d1 : decide ((F : Int) > (l.length : Int) - 4) = false := decide_eq_false (by omega)
  clear hF hS0
  have hK : Hid (stK l.length = (l.length - 4 + 11) / 12) := rfl
  generalize stK l.length = K at *
  go_enter Try.func28, Try.ntmps28
  go_wp2_with fail
  refine (Calls.mono HG.out) ?_
  rintro e x9 ⟨rfl, hx9⟩
  rw [hx9]
  clear hx9 x9 HG
  go_wp2_with fail
  go_loopw [6, 7] (fun sv iv wr => ∃ k : Nat, k ≤ K ∧ iv = .int .i64 ((4 + 12 * k : Nat) : Int) ∧ INum wr w.heap.size sv (sts l k) ∧ Below w.heap.size w wr) (fun _ iv _ => K + 4 - ((intOf iv).toNat / 12))
  case atStart => exact ⟨0, by omega, rfl, INum.nil _ _, Below.refl _ _⟩
  case round =>
    obtain ⟨k, hk, rfl, ho, hb⟩ := hrel
    have hkk := hK.out
    by_cases hlt : k < K
    · have q1 : ((4 + 12 * k : Nat) : Int) < (l.length : Int) := by omega
      have q3 : ((4 + 12 * k : Nat) : Int).toNat = 4 + 12 * k := by omega
      have q0 : (0 : Int) ≤ ((4 + 12 * k : Nat) : Int) := by omega
      have v3 : IntKind.i64.wrap (((4 + 12 * k : Nat) : Int) + 12) = ((4 + 12 * (k + 1) : Nat) : Int) := by rw [IntKind.wrap_i64]; omega
      have v4 : IntKind.i64.wrap (((4 + 12 * k : Nat) : Int) + 0) = ((4 + 12 * k : Nat) : Int) := by rw [IntKind.wrap_i64]; omega
      have hr' : Row wr a l := Row.later HR.out hb
      rcases hr' with e0 | ⟨b, off, rfl, hc⟩
      · subst e0; simp at h4
      have hc1 := hc (4 + 12 * k) (by omega)
      have hbd := bt_bd l (4 + 12 * k)
      have hmo := sts_more l k
      have hsl := sts_len l k
      generalize hX : bt l (4 + 12 * k) = X at *
      have v5 : IntKind.i64.wrap X = X := by rw [IntKind.wrap_i64]; omega
      have B1 := Blk.new' wr 3 [.int .i64 X]
      have b2 : Below wr.heap.size wr (wr.alloc (.cells #[.int .i64 X] 3)) := (Below.refl _ _).alloc (Nat.le_refl _) _
      have HF : Hid _ := And.intro (ho.later b2) (And.intro B1 (And.intro (below_then hb b2) hmo))
      have hk2 : 12 * k + 4 ≤ 140737488351232 := by omega
      clear ho hb hc b2 B1 hmo hX hbd hkk
      generalize hP : 4 + 12 * k = P at *
      go_wp2_with (at_builtin; refine wpList_append_inum _ rfl _ _ rfl w.heap.size u6 _ rfl HF.out.1 wr.heap.size X rfl HF.out.2.1 (by rw [hsl]; omega) (Below.size HF.out.2.2.1) ?_)
      intro v' w' ho' hg'
      have hb' : Below w.heap.size w w' := (HF.out.2.2.1).grown hg' (Below.size HF.out.2.2.1) (io_block HF.out.1)
      have F1 : Hid (INum w' w.heap.size v' (sts l (k + 1)) ∧ Below w.heap.size w w') := ⟨by rw [HF.out.2.2.2]; exact ho', hb'⟩
      clear ho' hg' hb' HF hc1 hsl v4 v5
      go_wp2
      go_roundw
      case rel => exact ⟨k + 1, by omega, by go_num, F1.out.1, F1.out.2⟩
      case measure => simp [intOf]; omega
    · obtain rfl : k = K := by omega
      have q1 : ¬ ((4 + 12 * k : Nat) : Int) < (l.length : Int) := by omega
      obtain ⟨a7, c7, rfl, VA⟩ := ho.arg (sts_wf l k)
      have HP : Hid _ := ports_any a7 c7 (sts l k) wr (by rw [sts_len] at VA ⊢; exact VA)
      have HO : Hid _ := And.intro ho hb
      have hG0 : Hid (stG l k = (decide (ptE (sts l k) = 0) && decide (ptB (sts l k) = l))) := rfl
      clear ho hb VA hkk
      go_wp2_with fail
      refine (Calls.mono HP.out) ?_
      rintro e w5 ⟨z5, rfl, o5, b5⟩
      have BB : Hid _ := below_then HO.out.2 b5
      have OI : Hid _ := HO.out.1.later b5
      rcases Decidable.em (ptE (sts l k) = 0) with hE | hE
      · obtain ⟨az, cz, rfl, -, -, hrz, -, -⟩ := o5.open
        have HQ : Hid _ := beq_any az a cz c (ptB (sts l k)) l w5 hrz (Row.later HR.out BB.out)
        rw [hE]
        clear hrz o5 b5 HP HO
        go_wp2_with fail
        refine (Calls.mono HQ.out) ?_
        rintro e _ ⟨rfl, rfl⟩
        by_cases hq : ptB (sts l k) = l
        · rw [decide_eq_true hq]
          have e1 := ss_0 hS.out (hG0.out.trans (by rw [hE, decide_eq_true hq]; rfl))
          clear HQ hq hE
          go_wp2
          go_ret2
          refine ⟨_, by rw [e1.out.1]; try rfl, ?_, BB.out⟩
          rw [e1.out.2]; exact OI.out
        · rw [decide_eq_false hq]
          have e1 := ss_11 hS.out (hG0.out.trans (by rw [decide_eq_false hq, Bool.and_false]))
          clear HQ hq hE
          go_wp2
          go_ret2
          refine ⟨.slice none 0 0, by rw [e1.out.1]; try rfl, ?_, BB.out⟩
          rw [e1.out.2]; exact INum.nil _ _
      · have e1 := ss_11 hS.out (hG0.out.trans (by rw [decide_eq_false hE]; rfl))
        have d2 : (ptE (sts l k) != 0) = true := by simpa using hE
        generalize ptE (sts l k) = PE at *
        clear o5 b5 HP HO
        go_wp2
        go_ret2
        refine ⟨.slice none 0 0, by rw [e1.out.1]; try rfl, ?_, BB.out⟩
        rw [e1.out.2]; exact INum.nil _ _
end Go.Proofs.Ythgiifeifinngaa
