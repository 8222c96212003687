/- sense: Keys, the program's and the document's. -/
import Derived.Test.YthgiifeifinngaaSe6
import Derived.Test.YthgiifeifinngaaSeA
namespace Go.Proofs.Ythgiifeifinngaa
open Go.RowKit
set_option linter.unusedVariables false
set_option linter.unusedSimpArgs false
set_option maxRecDepth 4000

theorem cl_later {w w' : World} {x : Addr} {v : Value} (h : w.cell? x = some v) (hb : Below w.heap.size w w') : w'.cell? x = some v := by
  have hx : x.block < w.heap.size := World.block_lt_of_cell? w x h
  unfold World.cell? at *
  rw [hb.block x.block hx]
  exact h
/-- the keys as bytes -/
def kbs (l : List Int) : List (BitVec 8) := l.flatMap (fun x => be 8 (BitVec.ofInt 64 (wrap64 x)))
theorem kbs_len (l : List Int) : (kbs l).length = 8 * l.length := by
  induction l with
  | nil => rfl
  | cons x r ih => simp only [kbs, List.flatMap_cons, List.length_append, be8_len, List.length_cons] at *; omega
theorem kbs_snoc (l : List Int) (k : Nat) (h : k < l.length) : kbs (l.take (k + 1)) = kbs (l.take k) ++ be 8 (BitVec.ofInt 64 (wrap64 l[k])) := by
  unfold kbs
  rw [List.take_succ_eq_append_getElem h, List.flatMap_append]
  simp
def kyE (g : Int) (n : Nat) : Int := if genB g = true then (if n ≤ 16 then 0 else 3) else 1
def kyB (g : Int) (l : List Int) : List (BitVec 8) := if kyE g l.length = 0 then (be 4 (BitVec.ofInt 64 g) ++ be 4 (BitVec.ofInt 64 ((l.length : Int) * 8))) ++ kbs l else []
theorem ky_1 {g : Int} {l : List Int} (h : genB g = false) : Hid (kyE g l.length = 1 ∧ kyB g l = []) := by
  have h' : kyE g l.length = 1 := if_neg (by simp [h])
  exact ⟨h', if_neg (by rw [h']; decide)⟩
theorem ky_3 {g : Int} {l : List Int} (h : genB g = true) (hl : ¬ l.length ≤ 16) : Hid (kyE g l.length = 3 ∧ kyB g l = []) := by
  have h' : kyE g l.length = 3 := by unfold kyE; rw [if_pos h, if_neg hl]
  exact ⟨h', if_neg (by rw [h']; decide)⟩
theorem ky_0 {g : Int} {l : List Int} (h : genB g = true) (hl : l.length ≤ 16) : Hid (kyE g l.length = 0 ∧ kyB g l = (be 4 (BitVec.ofInt 64 g) ++ be 4 (BitVec.ofInt 64 ((l.length : Int) * 8))) ++ kbs l) := by
  have h' : kyE g l.length = 0 := by unfold kyE; rw [if_pos h, if_pos hl]
  exact ⟨h', if_pos h'⟩
set_option maxHeartbeats 1000000 in
theorem keys_any (g : Int) (a : Option Addr) (cap : Nat) (l : List Int) (w : World) (V : VArg .u64 w a l.length cap l) :
    Calls Try.prog 22 #[.int .i64 g, .slice a l.length cap] w fun e w' => ∃ z, e = .returned (.tuple #[z, .int .i64 (kyE g l.length)]) ∧ Own w' w.heap.size z (kyB g l) ∧ Below w.heap.size w w' := by
  have HV : Hid _ := V
  clear V
  cases hg : genB g with
  | false =>
    have e1 := ky_1 (g := g) (l := l) hg
    go_enter Try.func22, Try.ntmps22
    go_wp2_with fail
    refine (Calls.mono (isGen_any _ _)) ?_
    rintro e _ ⟨rfl, rfl⟩
    rw [hg]
    go_wp2
    go_ret2
    refine ⟨.slice none 0 0, by rw [e1.out.1]; try rfl, ?_, Below.refl _ _⟩
    rw [e1.out.2]; exact Own.nil _ _
  | true =>
    have HG : Hid (0 ≤ g ∧ g < 4294967296) := (of_decide_eq_true hg : 0 ≤ g ∧ g < 4294967296)
    by_cases hl : l.length ≤ 16
    · have e1 := ky_0 (g := g) (l := l) hg hl
      have d1 : decide ((l.length : Int) > 16) = false := decide_eq_false (by omega)
      have v1 : IntKind.i64.wrap ((l.length : Int) * 8) = (l.length : Int) * 8 := by rw [IntKind.wrap_i64]; omega
      have F0 : Hid (Below w.heap.size w w) := Below.refl _ _
      go_enter Try.func22, Try.ntmps22
      go_wp2_with fail
      refine (Calls.mono (isGen_any _ _)) ?_
      rintro e _ ⟨rfl, rfl⟩
      rw [hg]
      have HN : Hid _ := NewWriter_any w.heap.size w F0.out.size
      go_wp2_with fail
      refine (Calls.mono HN.out) ?_
      rintro r u0 ⟨q, rfl, -, W0, b0⟩
      have J0 : Hid _ := And.intro W0 (below_then F0.out b0)
      clear W0 b0 HN
      have NN := wNum_any w.heap.size q _ ([]) 0 4 (g) u0 J0.out.1 (by simp)
      rw [wrNum_ok 4 (g) (wnE_4 HG.out)] at NN
      have HN : Hid _ := NN
      clear NN
      go_wp2_with fail
      refine (Calls.mono HN.out) ?_
      rintro r u1 ⟨rfl, x1, W1, -, t1⟩
      have J1 : Hid _ := And.intro W1 (J0.out.2.trans (wr_blw J0.out.1 t1))
      clear W1 t1 HN J0
      have NN := wNum_any w.heap.size q _ ([] ++ be 4 (BitVec.ofInt 64 (g))) 0 4 ((l.length : Int) * 8) u1 J1.out.1 (by simp [be4_len])
      rw [wrNum_ok 4 ((l.length : Int) * 8) (wnE_4 (by omega))] at NN
      have HN : Hid _ := NN
      clear NN
      go_wp2_with fail
      refine (Calls.mono HN.out) ?_
      rintro r u2 ⟨rfl, x2, W1, -, t1⟩
      have J2 : Hid _ := And.intro W1 (J1.out.2.trans (wr_blw J1.out.1 t1))
      clear W1 t1 HN J1
      go_wp2_with fail
      go_loopw [26] (fun iv wr => ∃ (k : Nat) (x : Value), k ≤ l.length ∧ iv = .int .i64 k ∧ WrAt wr w.heap.size q 63 x ((([] ++ be 4 (BitVec.ofInt 64 (g))) ++ be 4 (BitVec.ofInt 64 ((l.length : Int) * 8))) ++ kbs (l.take k)) 0 ∧ Below w.heap.size w wr) (fun iv _ => l.length - (intOf iv).toNat)
      case atStart => exact ⟨0, _, by omega, rfl, by have := J2.out.1; simpa [kbs] using this, J2.out.2⟩
      case round =>
        clear J2
        obtain ⟨k, x, hk, rfl, hW, hb⟩ := hrel
        by_cases hlt : k < l.length
        · obtain ⟨b, off, rfl, hc⟩ := HV.out.each (by omega)
          have hc1 := cl_later (hc k hlt) hb
          have hsn := kbs_snoc l k hlt
          have q1 : (k : Int) < (l.length : Int) := by omega
          have hkl : (kbs (l.take k)).length ≤ 128 := by rw [kbs_len, List.length_take]; omega
          generalize l[k] = X at *
          have NN := wNum_any w.heap.size q x ((([] ++ be 4 (BitVec.ofInt 64 (g))) ++ be 4 (BitVec.ofInt 64 ((l.length : Int) * 8))) ++ kbs (l.take k)) 0 8 (wrap64 X) wr hW (by simp only [List.length_append, be4_len, List.length_nil]; omega)
          rw [wrNum_ok 8 (wrap64 X) (wnE_8 _)] at NN
          have HN : Hid _ := NN
          have JW : Hid _ := And.intro hW (And.intro hb hsn)
          clear NN hW hb hc hsn
          go_wp2_with fail
          refine (Calls.mono HN.out) ?_
          rintro r u3 ⟨rfl, x3, W3, -, t3⟩
          have F : Hid (WrAt u3 w.heap.size q 63 x3 ((([] ++ be 4 (BitVec.ofInt 64 (g))) ++ be 4 (BitVec.ofInt 64 ((l.length : Int) * 8))) ++ kbs (l.take (k + 1))) 0 ∧ Below w.heap.size w u3) := ⟨by rw [JW.out.2.2, ← List.append_assoc]; exact W3, JW.out.2.1.trans (wr_blw JW.out.1 t3)⟩
          clear W3 t3 HN JW hc1 hkl
          go_wp2
          go_roundw
          case rel => exact ⟨k + 1, x3, by omega, by go_num, F.out.1, F.out.2⟩
          case measure => simp [intOf]; omega
        · obtain rfl : k = l.length := by omega
          rw [List.take_length] at hW
          have hkl := kbs_len l
          have HM : Hid _ := wEnd_any w.heap.size q x ((([] ++ be 4 (BitVec.ofInt 64 (g))) ++ be 4 (BitVec.ofInt 64 ((l.length : Int) * 8))) ++ kbs l) 0 wr hW (by simp only [List.length_append, be4_len, List.length_nil]; omega)
          have JB : Hid _ := hb
          clear hW hb hkl
          go_wp2_with fail
          refine (Calls.mono HM.out) ?_
          rintro r we ⟨z, rfl, o5, b5⟩
          rw [show ∀ L, wrEnd L 0 = L from fun L => if_pos rfl] at o5
          have G : Hid _ := And.intro (o5.lower JB.out.size) (below_then JB.out b5)
          clear o5 b5 HM JB
          go_wp2
          go_ret2
          refine ⟨z, by rw [e1.out.1]; rfl, ?_, G.out.2⟩
          rw [e1.out.2]
          have := G.out.1
          simpa using this
    · have e1 := ky_3 (g := g) (l := l) hg hl
      have d1 : decide ((l.length : Int) > 16) = true := decide_eq_true (by omega)
      clear hl
      go_enter Try.func22, Try.ntmps22
      go_wp2_with fail
      refine (Calls.mono (isGen_any _ _)) ?_
      rintro e _ ⟨rfl, rfl⟩
      rw [hg]
      go_wp2
      go_ret2
      refine ⟨.slice none 0 0, by rw [e1.out.1]; try rfl, ?_, Below.refl _ _⟩
      rw [e1.out.2]; exact Own.nil _ _
theorem st_run_app {ops : Array Oper} {o : Oper} {a : Act} {w w' : World} {v' : Value} {K : Act → World → Prop} {Q : Exit → Act → World → Prop} {E : Prop} (hg : o.guard = none) (s x : Operand) (t1 t2 : TypeId)
    (ho : o.op = .call { callee := .builtin .append, args := #[s, x], argTypes := #[t1, t2] }) (vs vx : Value) (hs : a.eval s = vs) (hx : a.eval x = vx) (hr : (Builtin.append_ #[t1, t2] o.type #[vs, vx]).run Try.prog w = .ok v' w') (next : K (a.put o.dst v') w') :
    if Region.wanted o (yielded ops a.tmps) = true then Oper.wp Try.prog o a w K Q else E := by
  have hw : Region.wanted o (yielded ops a.tmps) = true := by simp [Region.wanted, hg]
  rw [if_pos hw]
  unfold Oper.wp
  simp only [execOp, ho, resolve, invoke, builtin, Sem.run_bind, Sem.run_pure, Result.andThen_ok, List.map_toArray, List.map_cons, List.map_nil, hs, hx, hr]
  exact next
/-- an append of bytes to bytes of the call's own, as a run -/
theorem run_app_bytes (w : World) (base : Nat) (ty : TypeId) (v : Value) (l : List (BitVec 8)) (hown : Own w base v l) (b off m c : Nat) (lb : List (BitVec 8)) (hlb : lb.length = m) (hr : Row w (some ⟨b, off, none⟩) lb) (hmax : l.length + m ≤ 140737488355328) (hbase : base ≤ w.heap.size) :
    ∃ v' w', (Builtin.append_ #[22, 22] ty #[v, .slice (some ⟨b, off, none⟩) m c]).run Try.prog w = .ok v' w' ∧ Own w' base v' (l ++ lb) ∧ w.grownBy w' v.ownBlock := by
  obtain ⟨i0, hi, hz0, hz1, hz2⟩ := info_parts info_u8
  obtain ⟨v', w', h1, h2, h3, -⟩ := run_append_own (P := Try.prog) (w := w) base 22 ty 5 i0 (.int .u8 0) 1 1 Try.underlying22 hi hz0 hz1 hz2 rfl (by decide) v l.length (vals l) hown ⟨b, off, none⟩ m c (vals lb) (by rw [vals_length]; omega) (by
      intro j u hj
      have hjl : j < lb.length := by
        rcases Nat.lt_or_ge j lb.length with h | h
        · exact h
        · rw [List.getElem?_eq_none (by rw [vals_length]; exact h)] at hj; cases hj
      rcases hr with rfl | ⟨b', off', hb, hc⟩
      · simp at hjl
      · cases hb
        rw [add_atV, hc j hjl, ← vals_at lb j hjl, hj]) (vals_one lb) (by unfold maxLen; omega) (by omega) hbase
  refine ⟨v', w', h1, ?_, h3⟩
  unfold Own
  rw [vals_append, List.length_append, hlb]
  exact h2
set_option maxHeartbeats 1000000 in
theorem rkeys_any (g : Int) (a : Option Addr) (cap : Nat) (l : List Int) (w : World) (V : VArg .u64 w a l.length cap l) :
    Calls Try.prog 23 #[.int .i64 g, .slice a l.length cap] w fun e w' => ∃ z, e = .returned (.tuple #[z, .int .i64 (kyE g l.length)]) ∧ Own w' w.heap.size z (kyB g l) ∧ Below w.heap.size w w' := by
  have HV : Hid _ := V
  clear V
  cases hg : genB g with
  | false =>
    have e1 := ky_1 (g := g) (l := l) hg
    go_enter Try.func23, Try.ntmps23
    go_wp2_with fail
    refine (Calls.mono (rgen_any _ _)) ?_
    rintro e _ ⟨rfl, rfl⟩
    rw [hg]
    go_wp2
    go_ret2
    refine ⟨.slice none 0 0, by rw [e1.out.1]; try rfl, ?_, Below.refl _ _⟩
    rw [e1.out.2]; exact Own.nil _ _
  | true =>
    have HG : Hid (0 ≤ g ∧ g < 4294967296) := (of_decide_eq_true hg : 0 ≤ g ∧ g < 4294967296)
    by_cases hl : l.length ≤ 16
    · have e1 := ky_0 (g := g) (l := l) hg hl
      have d1 : decide ((l.length : Int) > 16) = false := decide_eq_false (by omega)
      have v1 : IntKind.i64.wrap (8 * (l.length : Int)) = 8 * (l.length : Int) := by rw [IntKind.wrap_i64]; omega
      have hmM : (Instr.makeSlice 22 (.int .i64 8) (.int .i64 8)).run Try.prog w = _ := seMake 8 (by omega) w
      have NM := made_ow w 8 (by simp [maxLen])
      have bm : Below w.heap.size w (w.alloc (.cells (vals (List.replicate 8 0#8)).toArray 5)) := (Below.refl _ _).alloc (Nat.le_refl _) _
      generalize w.alloc (.cells (vals (List.replicate 8 0#8)).toArray 5) = w1 at *
      have M : Hid _ := And.intro NM bm
      clear NM bm
      obtain ⟨a1, c1, ea1, hle1, -, hr1, hn1, -⟩ := M.out.1.open
      have A : Hid _ := at_yes _ _ _ _ 0 4 g w1 (by simp) hle1 hr1 hn1 (by simp) (by omega) (by omega) (by simp) (fits_4 HG.out)
      cases ea1
      clear hle1 hr1 hn1
      go_enter Try.func23, Try.ntmps23
      go_wp2_with fail
      refine (Calls.mono (rgen_any _ _)) ?_
      rintro e _ ⟨rfl, rfl⟩
      rw [hg]
      go_wp2_with fail
      refine (Calls.mono A.out) ?_
      rintro e w2 ⟨y2, rfl, o2, b2⟩
      rw [over_8a] at o2
      obtain ⟨a2, c2, rfl, hle2, -, hr2, hn2, -⟩ := o2.open
      have A2 : Hid _ := at_yes _ _ _ _ 4 4 (8 * (l.length : Int)) w2 rfl hle2 hr2 hn2 (by simp [be4_len]) (by omega) (by omega) (by simp [be4_len]) (fits_4 (by omega))
      have F : Hid _ := below_then M.out.2 b2
      clear hle2 hr2 hn2 o2 b2 A M hmM
      go_wp2_with fail
      refine (Calls.mono A2.out) ?_
      rintro e w3 ⟨y3, rfl, o3, b3⟩
      rw [over_8b] at o3
      have G : Hid _ := And.intro (o3.lower F.out.size) (below_then F.out b3)
      clear o3 b3 A2 F
      go_wp2_with fail
      go_loopw [6, 7] (fun bv iv wr => ∃ k : Nat, k ≤ l.length ∧ iv = .int .i64 k ∧ Own wr w.heap.size bv ((be 4 (BitVec.ofInt 64 g) ++ be 4 (BitVec.ofInt 64 (8 * (l.length : Int)))) ++ kbs (l.take k)) ∧ Below w.heap.size w wr) (fun _ iv _ => l.length - (intOf iv).toNat)
      case atStart => exact ⟨0, by omega, rfl, by have := G.out.1; simpa [kbs] using this, G.out.2⟩
      case round =>
        clear G
        obtain ⟨k, hk, rfl, ho, hb⟩ := hrel
        by_cases hlt : k < l.length
        · obtain ⟨b, off, rfl, hc⟩ := HV.out.each (by omega)
          have HC : Hid _ := hc k hlt
          have hsn := kbs_snoc l k hlt
          have q1 : (k : Int) < (l.length : Int) := by omega
          have hkl : (kbs (l.take k)).length ≤ 128 := by rw [kbs_len, List.length_take]; omega
          generalize l[k] = X at *
          have JW : Hid _ := And.intro ho (And.intro hb (And.intro hsn hkl))
          clear ho hb hc hsn hkl
          go_upto_region 9 with fail
          have v3 : (k : Int).toNat = k := by omega
          have v0 : (0 : Int) ≤ (k : Int) := by omega
          refine wp_region_held_drew (S := fun W => Below w.heap.size w W) (by kernel_rfl) (JW.out.2.1.drew) (fun hS => ?_)
          refine any_take (i := 0) (v := ?_) rfl (by kernel_rfl) (by kernel_rfl) (by kernel_rfl) (by exact fun _ _ _ h => h) (by rfl) ?_ hS ?_
          rotate_left
          · ((intro w hSw; have hc1 := cl_later HC.out hSw; go_simp) <;> with_reducible rfl)
          (try simp only [Act.put, List.setIfInBounds_toArray, List.set_cons_zero, List.set_cons_succ])
          refine any_take (i := 2) (v := ?_) rfl (by kernel_rfl) (by kernel_rfl) (by kernel_rfl) (by exact fun _ _ _ h => h) (by rfl) ?_ hS ?_
          rotate_left
          · ((intro w hSw; have hc1 := cl_later HC.out hSw; go_simp) <;> with_reducible rfl)
          (try simp only [Act.put, List.setIfInBounds_toArray, List.set_cons_zero, List.set_cons_succ])
          refine any_take (i := 3) (v := ?_) rfl (by kernel_rfl) (by kernel_rfl) (by kernel_rfl) (by exact fun _ _ _ h => h) (by rfl) ?_ hS ?_
          rotate_left
          · ((intro w hSw; have hc1 := cl_later HC.out hSw; go_simp) <;> with_reducible rfl)
          (try simp only [Act.put, List.setIfInBounds_toArray, List.set_cons_zero, List.set_cons_succ])
          refine any_take (i := 4) (v := ?_) rfl (by kernel_rfl) (by kernel_rfl) (by kernel_rfl) (by exact fun _ _ _ h => h) (by rfl) ?_ hS ?_
          rotate_left
          · ((intro w hSw; have hc1 := cl_later HC.out hSw; go_simp) <;> with_reducible rfl)
          (try simp only [Act.put, List.setIfInBounds_toArray, List.set_cons_zero, List.set_cons_succ])
          refine any_take (i := 5) (v := ?_) rfl (by kernel_rfl) (by kernel_rfl) (by kernel_rfl) (by exact fun _ _ _ h => h) (by rfl) ?_ hS ?_
          rotate_left
          · ((intro w hSw; have hc1 := cl_later HC.out hSw; go_simp) <;> with_reducible rfl)
          (try simp only [Act.put, List.setIfInBounds_toArray, List.set_cons_zero, List.set_cons_succ])
          refine any_take (i := 6) (v := ?_) rfl (by kernel_rfl) (by kernel_rfl) (by kernel_rfl) (by exact fun _ _ _ h => h) (by rfl) ?_ hS ?_
          rotate_left
          · ((intro w hSw; have hc1 := cl_later HC.out hSw; go_simp) <;> with_reducible rfl)
          (try simp only [Act.put, List.setIfInBounds_toArray, List.set_cons_zero, List.set_cons_succ])
          have O0 : Own wr.drew w.heap.size u6 _ := JW.out.1.later (Below.refl _ _).drew
          have B0 : Below w.heap.size w wr.drew := JW.out.2.1.drew
          generalize wr.drew = wd at *
          have hmM3 : (Instr.makeSlice 22 (.int .i64 8) (.int .i64 8)).run Try.prog wd = _ := seMake 8 (by omega) wd
          have NM3 := made_ow wd 8 (by simp [maxLen])
          have bm : Below wd.heap.size wd (wd.alloc (.cells (vals (List.replicate 8 0#8)).toArray 5)) := (Below.refl _ _).alloc (Nat.le_refl _) _
          generalize wd.alloc (.cells (vals (List.replicate 8 0#8)).toArray 5) = w4 at *
          have M3 : Hid _ := And.intro NM3 bm
          clear NM3 bm
          obtain ⟨a4, c4, ea4, hle4, -, hr4, hn4, -⟩ := M3.out.1.open
          have A4 : Hid _ := at_yes _ _ _ _ 0 8 (wrap64 X) w4 (by simp) hle4 hr4 hn4 (by simp) (by omega) (by omega) (by simp) (fits_8 _)
          cases ea4
          clear hle4 hr4 hn4
          clear hS
          refine any_on (i := 1) rfl (by kernel_rfl) (fun K hK => ?_)
          go_simp
          refine hK.out _ _ (below_then B0 M3.out.2) (fun hS => ?_)
          clear hK K
          refine any_one (i := 7) rfl (by kernel_rfl) (fun K hK => ?_)
          go_simp
          rw [show IntKind.i64.wrap X = wrap64 X from by unfold wrap64; exact IntKind.wrap_i64 X]
          refine (Calls.mono A4.out) ?_
          rintro e w5 ⟨y5, rfl, o5, b5⟩
          rw [over_8c] at o5
          obtain ⟨a5, c5, ea5, hle5, -, hr5, hn5, hg5⟩ := o5.open
          have O5 := O0.later (below_then M3.out.2 b5)
          have B5 := below_then B0 (below_then M3.out.2 b5)
          cases a5 with
          | none => have := hn5 rfl; rw [be8_len] at hle5; omega
          | some ad =>
            obtain ⟨gb, rfl, -⟩ := hg5 ad rfl
            rw [be8_len] at ea5
            subst ea5
            have RA := run_app_bytes w5 w.heap.size 22 u6 _ O5 gb 0 8 c5 _ (be8_len _) hr5 (by have := JW.out.2.2.2; simp only [List.length_append, be4_len]; omega) B5.size
            obtain ⟨v7, w7, r7, o7, g7⟩ := RA
            have B7 : Below w.heap.size w w7 := B5.grown g7 B5.size (own_block O5)
            have HR : Hid _ := And.intro r7 (And.intro o7 B7)
            go_wp2_with fail
            refine hK.out _ _ B5 ?_
            clear hK K hS M3 A4 O0 B0 o5 b5 hr5 hn5 hle5 hg5 O5 r7 o7 g7 hmM3
            refine any_on (i := 8) rfl (by kernel_rfl) (fun K hK => ?_)
            refine st_run_app rfl (.tmp 27) (.tmp 34) 22 22 rfl _ _ (by simp [Act.eval]) (by simp [Act.eval]) HR.out.1 ?_
            refine hK.out _ _ B7 (fun hS => ?_)
            clear hK K B5 B7
            (try simp only [Act.put, List.setIfInBounds_toArray, List.set_cons_zero, List.set_cons_succ])
            refine any_take (i := 9) (v := ?_) rfl (by kernel_rfl) (by kernel_rfl) (by kernel_rfl) (by exact fun _ _ _ h => h) (by rfl) ?_ hS ?_
            rotate_left
            · ((intro w hSw; (try dsimp only at hSw); go_simp) <;> with_reducible rfl)
            (try simp only [Act.put, List.setIfInBounds_toArray, List.set_cons_zero, List.set_cons_succ])
            refine wpAnyH_done (by kernel_rfl) ?_ _
            have F : Hid (Own w7 w.heap.size v7 ((be 4 (BitVec.ofInt 64 g) ++ be 4 (BitVec.ofInt 64 (8 * (l.length : Int)))) ++ kbs (l.take (k + 1))) ∧ Below w.heap.size w w7) := ⟨by rw [JW.out.2.2.1, ← List.append_assoc]; exact HR.out.2.1, HR.out.2.2⟩
            clear hS HR JW
            go_wp2
            go_roundw
            case rel => exact ⟨k + 1, by omega, by go_num, F.out.1, F.out.2⟩
            case measure => simp [intOf]; omega
        · obtain rfl : k = l.length := by omega
          rw [List.take_length, Int.mul_comm] at ho
          have G : Hid _ := And.intro ho hb
          clear ho hb
          go_wp2
          go_ret2
          refine ⟨_, by rw [e1.out.1]; rfl, ?_, G.out.2⟩
          rw [e1.out.2]; exact G.out.1
    · have e1 := ky_3 (g := g) (l := l) hg hl
      have d1 : decide ((l.length : Int) > 16) = true := decide_eq_true (by omega)
      clear hl
      go_enter Try.func23, Try.ntmps23
      go_wp2_with fail
      refine (Calls.mono (rgen_any _ _)) ?_
      rintro e _ ⟨rfl, rfl⟩
      rw [hg]
      go_wp2
      go_ret2
      refine ⟨.slice none 0 0, by rw [e1.out.1]; try rfl, ?_, Below.refl _ _⟩
      rw [e1.out.2]; exact Own.nil _ _
end Go.Proofs.Ythgiifeifinngaa
