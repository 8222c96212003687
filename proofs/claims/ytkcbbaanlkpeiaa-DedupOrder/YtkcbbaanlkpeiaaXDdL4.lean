/- DedupOrder. -/
import Derived.Test.YtkcbbaanlkpeiaaXDd28
import Derived.Test.YtkcbbaanlkpeiaaXDd29
import Derived.Test.YtkcbbaanlkpeiaaXDd30
import Derived.Test.YtkcbbaanlkpeiaaXDdB
import Derived.Test.YtkcbbaanlkpeiaaXDraw
import Derived.Deep.CutRange
namespace Go.Proofs.Ytkcbbaanlkpeiaa
open Go.RowKit
set_option linter.unusedVariables false
set_option linter.unusedSimpArgs false
set_option maxRecDepth 8000

def ocells (r : Or) : List Value := [.int .i64 r.kd, .int .i64 r.q, .int .i64 r.n, .int .i64 r.a, .int .i64 r.b, .int .i64 r.c, .int .i64 r.d, .slice r.x r.l.length r.cp]
theorem ocells_len (P : List Or) : (P.flatMap ocells).length = P.length * 8 := by
  induction P with
  | nil => rfl
  | cons h l ih => rw [List.flatMap_cons, List.length_append, ih]; simp [ocells]; omega
theorem ocells_at (P : List Or) (i j : Nat) (hi : i < P.length) (hj : j < 8) : (P.flatMap ocells)[i * 8 + j]? = (ocells P[i])[j]? := by
  induction P generalizing i with
  | nil => simp at hi
  | cons h l ih =>
    rw [List.flatMap_cons]
    cases i with
    | zero =>
      rw [List.getElem?_append_left (by simp [ocells]; omega)]
      simp
    | succ i =>
      rw [List.getElem?_append_right (by simp [ocells]; omega)]
      have := ih i (by simpa using hi)
      rw [show (i + 1) * 8 + j - (ocells h).length = i * 8 + j by simp [ocells]; omega, this]
      simp
def OrOwn (w : World) (v : Value) (P : List Or) : Prop := w.ownsRow 0 45 8 v P.length (P.flatMap ocells)
theorem OrOwn.nil (w : World) : OrOwn w (.slice none 0 0) [] := World.ownsRow_nil w 0 _ 8
theorem OrOwn.same {w w' : World} {v : Value} {P : List Or} (h : OrOwn w v P) (hb : ∀ k, v.ownBlock = some k → w'.heap[k]? = w.heap[k]?) : OrOwn w' v P := ownsRow_same h hb
theorem OrOwn.lt {w : World} {v : Value} {P : List Or} (h : OrOwn w v P) (k : Nat) (hk : v.ownBlock = some k) : k < w.heap.size := (World.ownsRow.lt h k hk).2
theorem OrOwn.later {w w' : World} {v : Value} {P : List Or} (h : OrOwn w v P) (hb : Below w.heap.size w w') : OrOwn w' v P := h.same (fun k hk => hb.block k (h.lt k hk))
theorem OrOwn.open {w : World} {v : Value} {P : List Or} (h : OrOwn w v P) : ∃ a c, v = .slice a P.length c ∧ P.length ≤ c := by
  obtain ⟨h1, ⟨h2, h3⟩ | ⟨g, cap, cur, rfl, hb, hh, hc, hm, hs, ht⟩⟩ := h
  · exact ⟨none, 0, by rw [h2, h3], by omega⟩
  · exact ⟨_, cap, rfl, hc⟩
theorem OrOwn.cells {w : World} {a : Option Addr} {n c : Nat} {P : List Or} (h : OrOwn w (.slice a n c) P) (i : Nat) (hi : i < P.length) : ∃ b, a = some ⟨b, 0, none⟩ ∧ ∀ W, OrOwn W (.slice a n c) P → ∀ j, j < 8 → W.cell? ⟨b, i * 8 + j, none⟩ = (ocells P[i])[j]? := by
  obtain ⟨h1, ⟨h2, h3⟩ | ⟨g, cap, cur, hv, hb, hh, hc, hm, hs, ht⟩⟩ := h
  · omega
  · injection hv with e1 e2 e3
    subst e1
    refine ⟨g, rfl, fun W hW j hj => ?_⟩
    subst e2 e3
    rw [World.ownsRow.cellAt hW _ (by omega), ocells_at P i j hi hj]
def orOb (v : Value) (P : List Or) : Ob := ⟨v.ownBlock.toList, [], fun w => OrOwn w v P⟩
theorem orOb_ok {w : World} {v : Value} {P : List Or} (h : OrOwn w v P) : (orOb v P).Ok w := by
  refine ⟨h, fun k hk => ?_, (fun k _ hv => by cases hv), fun w1 w2 hs h => OrOwn.same h (fun k hk => hs k (.inl (by simp [orOb, hk])))⟩
  rcases hk with hk | hk
  · exact h.lt k (by simpa [orOb] using hk)
  · cases hk
theorem orOb_app {w w1 w' : World} {v v' : Value} {P : List Or} {r : Or} (h : OrOwn w v P) (hb : Below w.heap.size w w1) (hg : w1.grownBy w' v.ownBlock) (h' : OrOwn w' v' (P ++ [r])) (hor : v'.ownBlock = v.ownBlock ∨ v'.ownBlock = some w1.heap.size) : Step w w' (orOb v P) (orOb v' (P ++ [r])) := by
  refine ⟨?_, orOb_ok h', fun k hk => ?_, (fun k hk => by cases hk)⟩
  · exact (tnd_of hb).trans (turned_grown hg (fun k e => .inl (by simp [orOb, e])))
  · simp only [orOb, Option.mem_toList] at hk ⊢
    rcases hor with e | e
    · exact .inl (by rw [← e]; exact hk)
    · rw [e] at hk; injection hk with hk; have := hb.size; exact .inr (by omega)
/-- between two rounds of the first loop -/
structure OrdI (w wr : World) (ga gb : Nat) (lv : Value) (P : List Or) (fs1 fs2 : List Nx) : Prop where
  sep : Sep w.heap.size [tb ga fs1, tb gb fs2, orOb lv P] wr
  be : Below w.heap.size w wr
theorem OrdI.later {w wr wx : World} {ga gb : Nat} {lv : Value} {P : List Or} {fs1 fs2 : List Nx} (h : OrdI w wr ga gb lv P fs1 fs2) (hb : Below wr.heap.size wr wx) : OrdI w wx ga gb lv P fs1 fs2 := ⟨h.sep.later hb, below_then h.be hb⟩
theorem OrdI.own {w wr : World} {ga gb : Nat} {lv : Value} {P : List Or} {fs1 fs2 : List Nx} (h : OrdI w wr ga gb lv P fs1 fs2) : OrOwn wr lv P := (h.sep.each (orOb lv P) (by simp)).holds
theorem OrdI.put {w wr wx : World} {ga gb : Nat} {lv : Value} {P : List Or} {fs1 fs2 fs2' : List Nx} (h : OrdI w wr ga gb lv P fs1 fs2) (st : Step wr wx (tb gb fs2) (tb gb fs2')) : OrdI w wx ga gb lv P fs1 fs2' :=
  ⟨(h.sep.swap.step st).swap, h.be.trans (h.sep.swap.below st)⟩
theorem OrdI.app {w wr wx : World} {ga gb : Nat} {lv lv' : Value} {P P' : List Or} {fs1 fs2 : List Nx} (h : OrdI w wr ga gb lv P fs1 fs2) (st : Step wr wx (orOb lv P) (orOb lv' P')) : OrdI w wx ga gb lv' P' fs1 fs2 :=
  ⟨(h.sep.third.step st).perm ((List.Perm.swap _ _ _).trans (List.Perm.cons _ (List.Perm.swap _ _ _))), h.be.trans (h.sep.third.below st)⟩
/-- what is known of the calls that were done -/
structure OrdP (w : World) (P : List Or) (ms : Ms) : Prop where
  dat : ∀ r ∈ P, DatOk w r.x r.l r.cp ∧ canP r.q r.n = true ∧ r.e = 0
  nd : P.Pairwise (fun r r' => ¬ (r.q = r'.q ∧ r.n = r'.n))
  rep : Repr12 ms P P.length
theorem OrdP.more {w : World} {P : List Or} {ms : Ms} {r : Or} (h : OrdP w P ms) (hl : P.length < 60) (hD : DatOk w r.x r.l r.cp) (he : putE ms r.q r.n r.e = 0) : OrdP w (P ++ [r]) (putTo ms r.q r.n (prB r.a r.b r.c r.d r.l) (putE ms r.q r.n r.e)) := by
  obtain ⟨R, hno⟩ := repr_put h.rep (by omega) he
  obtain ⟨hc, hE, -⟩ := putE_0 he
  refine ⟨fun r' hr' => ?_, ?_, ?_⟩
  · rcases List.mem_append.1 hr' with q | q
    · exact h.dat r' q
    · rw [List.mem_singleton.1 q]; exact ⟨hD, hc, hE⟩
  · rw [List.pairwise_append]
    exact ⟨h.nd, List.pairwise_singleton _ _, fun r' hr' s hs => by rw [List.mem_singleton.1 hs]; exact hno r' hr'⟩
  · rw [List.length_append]
    exact R.congr (fun x => by simp [or_comm])
theorem bytes_str (g : Nat) (fs : List Nx) (w : World) (h : TbP w g fs) : Calls Try.prog 12 #[.pointer (some ⟨g, 0, none⟩)] w fun e w' => ∃ a n c, e = .returned (.slice a n c) ∧ (∀ X, Below w'.heap.size w' X → (convert 22 9 (.slice a n c)).run Try.prog X = .ok (.string (str (tbB (fsm fs)))) X) ∧ Below w.heap.size w w' := by
  refine (tbBytes_any g fs w h).mono ?_
  rintro e w' ⟨z, rfl, ho, hb⟩
  obtain ⟨a, n, c, rfl, hc⟩ := own12_strs ho
  exact ⟨a, n, c, rfl, hc, hb⟩
theorem info_op12 : (Try.prog.info? 45).map (fun i => (i.zero, i.size, i.bytes)) = some (some (.agg #[.int .i64 0, .int .i64 0, .int .i64 0, .int .i64 0, .int .i64 0, .int .i64 0, .int .i64 0, .slice none 0 0]), 8, 80) := by kernel_rfl
set_option maxHeartbeats 16000000 in
theorem dedupOrder_walk (sa : Option Addr) (sl sc : Nat) (w : World) (B1 : Op12Arg w sa sl sc) :
    Calls Try.prog 5 #[.slice sa sl sc] w fun e w' => e = .returned (.bool true) ∧ Below w.heap.size w w' := by
  have NA : Hid _ := ddNew_any w
  have HP : Hid _ := B1
  clear B1
  go_enter Try.func5, Try.ntmps5
  go_wp2_with fail
  refine (Calls.mono NA.out) ?_
  rintro e w1 ⟨rfl, hG, b1⟩
  have S1 : Sep w.heap.size [tb w.heap.size nx0] w1 := Sep.nil.fresh b1 (tbNew_ok w1 _ hG) (fun k hk => by
    rcases hk with hk | hk
    · rcases mem_tb.1 hk with rfl | ⟨f, hf, hk⟩
      · exact Nat.le_refl _
      · rw [List.eq_of_mem_replicate hf] at hk; cases hk
    · cases hk)
  have NB : Hid _ := ddNew_any w1
  have H1 : Hid _ := And.intro S1 b1
  clear NA hG S1 b1
  go_wp2_with fail
  refine (Calls.mono NB.out) ?_
  rintro e w2 ⟨rfl, hG, b2⟩
  have S2 : Sep w.heap.size [tb w1.heap.size nx0, tb w.heap.size nx0] w2 := H1.out.1.fresh b2 (tbNew_ok w2 _ hG) (fun k hk => by
    rcases hk with hk | hk
    · rcases mem_tb.1 hk with rfl | ⟨f, hf, hk⟩
      · exact Nat.le_refl _
      · rw [List.eq_of_mem_replicate hf] at hk; cases hk
    · cases hk)
  have S3 := S2.fresh (Below.refl _ _) (orOb_ok (OrOwn.nil w2)) (fun k hk => by rcases hk with hk | hk <;> simp [orOb, Value.ownBlock] at hk)
  have I0 : Hid (OrdI w w2 w.heap.size w1.heap.size (.slice none 0 0) [] nx0 nx0) := ⟨S3.perm (List.reverse_perm _).symm, below_then H1.out.2 b2⟩
  have n1 : ∀ (g : Nat) (W : World), (binOp .eql 24 (.pointer (some ⟨g, 0, none⟩)) (.pointer none)).run Try.prog W = .ok (.bool false) W := fun g W => by first | rfl | kernel_rfl
  clear NB hG b2 S2 S3 H1
  go_wp2_with fail
  clear n1
  have HP0 : Hid (OrdP w [] (fsm nx0)) := ⟨(fun r hr => by cases hr), List.Pairwise.nil, repr_new⟩
  go_loopw [5, 6] (fun lv iv wr => ∃ (k : Nat) (P : List Or) (fs1 : List Nx), iv = .int .i64 k ∧ k ≤ sl ∧ P.length ≤ 60 ∧ OrdI w wr w.heap.size w1.heap.size lv P fs1 nx0 ∧ OrdP w P (fsm fs1)) (fun _ iv _ => sl - (intOf iv).toNat)
  case atStart => exact ⟨0, [], nx0, rfl, by omega, by simp, I0.out, HP0.out⟩
  case round =>
    clear I0 HP0
    obtain ⟨k, P, fs1, rfl, hk, hP60, hI, hPp⟩ := hrel
    have HI : Hid _ := hI
    have HPp : Hid _ := hPp
    obtain ⟨la, lc, hlv, hlc⟩ := hI.own.open
    have q3 : (sl : Int) ≤ 140737488355328 := by have := HP.out.few; omega
    have q4 : (k : Int) ≤ 140737488355328 := by omega
    clear hI hPp
    subst hlv
    go_upto_region 7 with fail
    go_cut [24] from 16 to 51 (fun c wx => c = .bool (decide (k < sl ∧ P.length < 60)) ∧ wx = wr)
    case first =>
      by_cases t1 : (k : Int) < (sl : Int)
      · by_cases t2 : (P.length : Int) < 60
        · go_wp2
          go_meet
          exact ⟨congrArg Value.bool (decide_eq_true (p := k < sl ∧ P.length < 60) (by omega)).symm, rfl⟩
        · go_wp2
          go_meet
          exact ⟨congrArg Value.bool (decide_eq_false (p := k < sl ∧ P.length < 60) (by omega)).symm, rfl⟩
      · go_wp2
        go_meet
        exact ⟨congrArg Value.bool (decide_eq_false (p := k < sl ∧ P.length < 60) (by omega)).symm, rfl⟩
    case rest =>
    obtain ⟨rfl, hwc⟩ := hcut
    obtain rfl := hwc.symm
    clear hwc
    by_cases hcc : k < sl ∧ P.length < 60
    · rw [decide_eq_true hcc]
      obtain ⟨t1, t2⟩ := hcc
      obtain ⟨sb, so, rfl, hss⟩ := HP.out.each (by omega)
      obtain ⟨z0, z1, z2, z3_0, z3_1, z3_2, z3_3, z3_4, z3_4x, z3_4c, x0, x1, x2, x3, x4, x5, x6, x7, -, -, -, -, -, -, -, hDo⟩ := hss k t1
      obtain ⟨r, hr⟩ : ∃ r : Or, r = ⟨z0, z1, z2, z3_0, z3_1, z3_2, z3_3, z3_4, z3_4x, z3_4c⟩ := ⟨_, rfl⟩
      have x0' : ∀ W, Below w.heap.size w W → W.cell? ⟨sb, so + k * 8, none⟩ = some (.int .i64 r.kd) := fun W hW => by rw [hr]; exact cell_later hW x0
      have x1' : ∀ W, Below w.heap.size w W → W.cell? ⟨sb, so + k * 8 + 1, none⟩ = some (.int .i64 r.q) := fun W hW => by rw [hr]; exact cell_later hW x1
      have x2' : ∀ W, Below w.heap.size w W → W.cell? ⟨sb, so + k * 8 + 2, none⟩ = some (.int .i64 r.n) := fun W hW => by rw [hr]; exact cell_later hW x2
      have x3' : ∀ W, Below w.heap.size w W → W.cell? ⟨sb, so + k * 8 + 3, none⟩ = some (.int .i64 r.a) := fun W hW => by rw [hr]; exact cell_later hW x3
      have x4' : ∀ W, Below w.heap.size w W → W.cell? ⟨sb, so + k * 8 + 4, none⟩ = some (.int .i64 r.b) := fun W hW => by rw [hr]; exact cell_later hW x4
      have x5' : ∀ W, Below w.heap.size w W → W.cell? ⟨sb, so + k * 8 + 5, none⟩ = some (.int .i64 r.c) := fun W hW => by rw [hr]; exact cell_later hW x5
      have x6' : ∀ W, Below w.heap.size w W → W.cell? ⟨sb, so + k * 8 + 6, none⟩ = some (.int .i64 r.d) := fun W hW => by rw [hr]; exact cell_later hW x6
      have x7' : ∀ W, Below w.heap.size w W → W.cell? ⟨sb, so + k * 8 + 7, none⟩ = some (.slice r.x r.l.length r.cp) := fun W hW => by rw [hr]; exact cell_later hW x7
      have hDr : DatOk w r.x r.l r.cp := by rw [hr]; exact hDo
      have q1 : (k : Int) < sl := by omega
      have q2 : (P.length : Int) < 60 := by omega
      have HD : Hid _ := HI.out.later (Below.refl _ _).drew
      have NP : Hid _ := tbPut_any w.heap.size fs1 r.q r.n r.a r.b r.c r.d r.x r.cp r.l wr.drew HD.out.sep.head hDr.most hDr.le hDr.nil (hDr.row.later HD.out.be)
      rw [show prE r.a r.b r.c r.d r.l.length = r.e from rfl] at NP
      have HDr : Hid _ := hDr
      clear x0 x1 x2 x3 x4 x5 x6 x7 hDo hss hr hDr
      go_wp2_with fail
      refine e_begin (S := fun W => Below w.heap.size w W) 17 (by kernel_rfl) (below_then HI.out.be (Below.refl _ _).drew) (fun hS => ?_)
      refine e_take (i := 0) (v := ?_) [16, 17] rfl (by kernel_rfl) (by kernel_rfl) (by kernel_rfl) (by kernel_rfl) (by exact fun _ _ _ h => h) (by rfl) ?_ hS ?_
      rotate_left
      · ((intro w hSw; (try dsimp only at hSw); go_simp) <;> with_reducible rfl)
      (try simp only [Act.put, List.setIfInBounds_toArray, List.set_cons_zero, List.set_cons_succ])
      refine e_take (i := 1) (v := ?_) [3, 4, 5, 16, 17] rfl (by kernel_rfl) (by kernel_rfl) (by kernel_rfl) (by kernel_rfl) (by exact fun _ _ _ h => h) (by rfl) ?_ hS ?_
      rotate_left
      · ((intro w hSw; (try dsimp only at hSw); go_simp) <;> with_reducible rfl)
      (try simp only [Act.put, List.setIfInBounds_toArray, List.set_cons_zero, List.set_cons_succ])
      refine e_take (i := 2) (v := ?_) [3, 4, 5, 16, 17] rfl (by kernel_rfl) (by kernel_rfl) (by kernel_rfl) (by kernel_rfl) (by exact fun _ _ _ h => h) (by rfl) ?_ hS ?_
      rotate_left
      · ((intro w hSw; (try dsimp only at hSw); go_simp) <;> with_reducible rfl)
      (try simp only [Act.put, List.setIfInBounds_toArray, List.set_cons_zero, List.set_cons_succ])
      refine e_take (i := 3) (v := ?_) [4, 5, 16, 17] rfl (by kernel_rfl) (by kernel_rfl) (by kernel_rfl) (by kernel_rfl) (by exact fun _ _ _ h => h) (by rfl) ?_ hS ?_
      rotate_left
      · ((intro w hSw; (try dsimp only at hSw); go_simp) <;> with_reducible rfl)
      (try simp only [Act.put, List.setIfInBounds_toArray, List.set_cons_zero, List.set_cons_succ])
      refine e_take (i := 4) (v := ?_) [5, 16, 17] rfl (by kernel_rfl) (by kernel_rfl) (by kernel_rfl) (by kernel_rfl) (by exact fun _ _ _ h => h) (by rfl) ?_ hS ?_
      rotate_left
      · ((intro w hSw; (try dsimp only at hSw); go_simp) <;> with_reducible rfl)
      (try simp only [Act.put, List.setIfInBounds_toArray, List.set_cons_zero, List.set_cons_succ])
      refine e_take (i := 5) (v := ?_) [16, 17] rfl (by kernel_rfl) (by kernel_rfl) (by kernel_rfl) (by kernel_rfl) (by exact fun _ _ _ h => h) (by rfl) ?_ hS ?_
      rotate_left
      · ((intro w hSw; (try dsimp only at hSw); go_simp) <;> with_reducible rfl)
      (try simp only [Act.put, List.setIfInBounds_toArray, List.set_cons_zero, List.set_cons_succ])
      refine e_take (i := 6) (v := ?_) [8, 9, 10, 16, 17] rfl (by kernel_rfl) (by kernel_rfl) (by kernel_rfl) (by kernel_rfl) (by exact fun _ _ _ h => h) (by rfl) ?_ hS ?_
      rotate_left
      · ((intro w hSw; (try dsimp only at hSw); go_simp) <;> with_reducible rfl)
      (try simp only [Act.put, List.setIfInBounds_toArray, List.set_cons_zero, List.set_cons_succ])
      refine e_take (i := 7) (v := ?_) [8, 9, 10, 16, 17] rfl (by kernel_rfl) (by kernel_rfl) (by kernel_rfl) (by kernel_rfl) (by exact fun _ _ _ h => h) (by rfl) ?_ hS ?_
      rotate_left
      · ((intro w hSw; (try dsimp only at hSw); go_simp) <;> with_reducible rfl)
      (try simp only [Act.put, List.setIfInBounds_toArray, List.set_cons_zero, List.set_cons_succ])
      refine e_take (i := 8) (v := ?_) [9, 10, 16, 17] rfl (by kernel_rfl) (by kernel_rfl) (by kernel_rfl) (by kernel_rfl) (by exact fun _ _ _ h => h) (by rfl) ?_ hS ?_
      rotate_left
      · ((intro w hSw; (try dsimp only at hSw); go_simp) <;> with_reducible rfl)
      (try simp only [Act.put, List.setIfInBounds_toArray, List.set_cons_zero, List.set_cons_succ])
      refine e_take (i := 9) (v := ?_) [10, 16, 17] rfl (by kernel_rfl) (by kernel_rfl) (by kernel_rfl) (by kernel_rfl) (by exact fun _ _ _ h => h) (by rfl) ?_ hS ?_
      rotate_left
      · ((intro w hSw; (try dsimp only at hSw); go_simp) <;> with_reducible rfl)
      (try simp only [Act.put, List.setIfInBounds_toArray, List.set_cons_zero, List.set_cons_succ])
      refine e_take (i := 10) (v := ?_) [16, 17] rfl (by kernel_rfl) (by kernel_rfl) (by kernel_rfl) (by kernel_rfl) (by exact fun _ _ _ h => h) (by rfl) ?_ hS ?_
      rotate_left
      · ((intro w hSw; (try dsimp only at hSw); go_simp) <;> with_reducible rfl)
      (try simp only [Act.put, List.setIfInBounds_toArray, List.set_cons_zero, List.set_cons_succ])
      refine e_take (i := 11) (v := ?_) [13, 14, 15, 16, 17] rfl (by kernel_rfl) (by kernel_rfl) (by kernel_rfl) (by kernel_rfl) (by exact fun _ _ _ h => h) (by rfl) ?_ hS ?_
      rotate_left
      · ((intro w hSw; (try dsimp only at hSw); go_simp) <;> with_reducible rfl)
      (try simp only [Act.put, List.setIfInBounds_toArray, List.set_cons_zero, List.set_cons_succ])
      refine e_take (i := 12) (v := ?_) [13, 14, 15, 16, 17] rfl (by kernel_rfl) (by kernel_rfl) (by kernel_rfl) (by kernel_rfl) (by exact fun _ _ _ h => h) (by rfl) ?_ hS ?_
      rotate_left
      · ((intro w hSw; (try dsimp only at hSw); go_simp) <;> with_reducible rfl)
      (try simp only [Act.put, List.setIfInBounds_toArray, List.set_cons_zero, List.set_cons_succ])
      refine e_take (i := 13) (v := ?_) [14, 15, 16, 17] rfl (by kernel_rfl) (by kernel_rfl) (by kernel_rfl) (by kernel_rfl) (by exact fun _ _ _ h => h) (by rfl) ?_ hS ?_
      rotate_left
      · ((intro w hSw; (try dsimp only at hSw); go_simp) <;> with_reducible rfl)
      (try simp only [Act.put, List.setIfInBounds_toArray, List.set_cons_zero, List.set_cons_succ])
      refine e_take (i := 14) (v := ?_) [15, 16, 17] rfl (by kernel_rfl) (by kernel_rfl) (by kernel_rfl) (by kernel_rfl) (by exact fun _ _ _ h => h) (by rfl) ?_ hS ?_
      rotate_left
      · ((intro w hSw; (try dsimp only at hSw); go_simp) <;> with_reducible rfl)
      (try simp only [Act.put, List.setIfInBounds_toArray, List.set_cons_zero, List.set_cons_succ])
      refine e_take (i := 15) (v := ?_) [16, 17] rfl (by kernel_rfl) (by kernel_rfl) (by kernel_rfl) (by kernel_rfl) (by exact fun _ _ _ h => h) (by rfl) ?_ hS ?_
      rotate_left
      · ((intro w hSw; (try dsimp only at hSw); go_simp) <;> with_reducible rfl)
      (try simp only [Act.put, List.setIfInBounds_toArray, List.set_cons_zero, List.set_cons_succ])
      refine e_one (i := 16) rfl (by kernel_rfl) (fun K hK => ?_)
      go_simp
      refine (Calls.mono (NP.out)) ?_
      rintro e v1 ⟨fs', rfl, st, hfs⟩
      have C1 : Below w.heap.size w v1 := HD.out.be.trans (HD.out.sep.below st)
      have H1 : Hid _ := And.intro st (And.intro hfs C1)
      clear st hfs NP
      go_wp2_with fail
      refine hK.out _ _ (C1) (fun hS => ?_)
      clear hK K
      clear hS
      refine e_last (z := 17) rfl (by kernel_rfl) (fun K hK => ?_)
      go_simp
      refine hK.out _ _ ?_
      clear hK K
      refine e_done (by kernel_rfl) ?_ _
      obtain ⟨st, hfs, C1⟩ := H1.out
      have HB : Hid (OrdI w v1 w.heap.size w1.heap.size (.slice la P.length lc) P fs' nx0) := ⟨HD.out.sep.step st, C1⟩
      have C1' : Below w.heap.size w v1 := C1
      by_cases hE : putE (fsm fs1) r.q r.n r.e = 0
      · have hE' : (putE (fsm fs1) r.q r.n r.e == 0) = true := by rw [beq_iff_eq]; exact hE
        have HM : Hid (OrdP w (P ++ [r]) (fsm fs')) := by
          rw [hfs]
          exact HPp.out.more t2 HDr.out hE
        have y0 := x0' v1 C1'
        have y1 := x1' v1 C1'
        have y2 := x2' v1 C1'
        have y3 := x3' v1 C1'
        have y4 := x4' v1 C1'
        have y5 := x5' v1 C1'
        have y6 := x6' v1 C1'
        have y7 := x7' v1 C1'
        obtain ⟨i0, hi0, hz0, hz1, hz2⟩ := info_parts info_op12
        have bn : Below v1.heap.size v1 (v1.alloc (.cells #[.int .i64 r.kd, .int .i64 r.q, .int .i64 r.n, .int .i64 r.a, .int .i64 r.b, .int .i64 r.c, .int .i64 r.d, .slice r.x r.l.length r.cp] 45)) := (Below.refl _ _).alloc (Nat.le_refl _) _
        have BN := Blk.new' v1 45 [.int .i64 r.kd, .int .i64 r.q, .int .i64 r.n, .int .i64 r.a, .int .i64 r.b, .int .i64 r.c, .int .i64 r.d, .slice r.x r.l.length r.cp]
        have HO : Hid _ := And.intro HB.out.own (And.intro bn (And.intro BN (HB.out.own.later bn)))
        clear x0' x1' x2' x3' x4' x5' x6' x7' hE hfs st C1 C1' HPp H1 HI HD bn BN
        generalize putE (fsm fs1) r.q r.n r.e = E at *
        go_wp2_with (at_builtin; refine wpList_append_own_at (w := v1.alloc (.cells #[.int .i64 r.kd, .int .i64 r.q, .int .i64 r.n, .int .i64 r.a, .int .i64 r.b, .int .i64 r.c, .int .i64 r.d, .slice r.x r.l.length r.cp] 45)) rfl _ _ 39 rfl 0 45 i0 _ 8 80 Try.underlying39 hi0 hz0 hz1 hz2 rfl (by decide) (.slice la P.length lc) _ _ rfl HO.out.2.2.2 ⟨v1.heap.size, 0, none⟩ 1 1 [.int .i64 r.kd, .int .i64 r.q, .int .i64 r.n, .int .i64 r.a, .int .i64 r.b, .int .i64 r.c, .int .i64 r.d, .slice r.x r.l.length r.cp] rfl rfl ?_ ?_ (by unfold maxLen; omega) (by omega) (Nat.zero_le _) ?_)
        · intro j u hj
          rw [Addr.add_lit, Nat.zero_add, blk_at HO.out.2.2.1, hj]
        · intro u hu
          simp only [List.mem_cons, List.not_mem_nil, or_false] at hu
          rcases hu with rfl | rfl | rfl | rfl | rfl | rfl | rfl | rfl <;> rfl
        · intro v' w' h2 h3 _ h5
          have ho' : OrOwn w' v' (P ++ [r]) := by
            unfold OrOwn
            rw [List.length_append, List.flatMap_append, List.flatMap_singleton]
            exact h2
          have F : Hid _ := HB.out.app (orOb_app HO.out.1 HO.out.2.1 h3 ho' (by simpa using h5))
          clear h2 h3 h5 HO HB y0 y1 y2 y3 y4 y5 y6 y7 ho'
          go_wp2
          go_roundw
          case rel => exact ⟨k + 1, P ++ [r], fs', by go_num, by omega, by rw [List.length_append]; simp; omega, F.out, HM.out⟩
          case measure => simp [intOf]; omega
      · have hE' : (putE (fsm fs1) r.q r.n r.e == 0) = false := by rw [beq_eq_false_iff_ne]; exact hE
        have HM : Hid (OrdP w P (fsm fs')) := by
          have e : fsm fs' = fsm fs1 := by rw [hfs]; unfold putTo; rw [if_neg hE]
          rw [e]; exact HPp.out
        clear x0' x1' x2' x3' x4' x5' x6' x7' hE hfs st C1 C1' HPp H1 HI HD
        generalize putE (fsm fs1) r.q r.n r.e = E at *
        go_wp2
        go_roundw
        case rel => exact ⟨k + 1, P, fs', by go_num, by omega, hP60, HB.out, HM.out⟩
        case measure => simp [intOf]; omega
    · rw [decide_eq_false hcc]
      clear hcc
      have HQ : Hid (∀ j : Nat, Repr12 (fsm nx0) (P.drop P.length) 0) := fun _ => by rw [List.drop_length]; exact repr_new
      have HJ : Hid _ := And.intro HI.out HPp.out
      have q5 : (P.length : Int) ≤ 60 := by omega
      clear HI HPp hk q4
      go_wp2_with fail
      go_loopw [7] (fun iv wr => ∃ (k : Nat) (fs2 : List Nx), iv = .int .i64 ((k : Int) - 1) ∧ k ≤ P.length ∧ OrdI w wr w.heap.size w1.heap.size (.slice la P.length lc) P fs1 fs2 ∧ Repr12 (fsm fs2) (P.drop k) (P.length - k)) (fun iv _ => (intOf iv + 1).toNat)
      case atStart => exact ⟨P.length, nx0, rfl, Nat.le_refl _, HJ.out.1, by rw [Nat.sub_self]; exact HQ.out 0⟩
      case round =>
        clear HQ
        obtain ⟨k, fs2, rfl, hk, hI, hR⟩ := hrel
        have HI : Hid _ := hI
        by_cases h0 : k = 0
        · subst h0
          have e1 : fsm fs1 = fsm fs2 := HJ.out.2.rep.eq hR
          have HT : Hid _ := And.intro (HI.out.sep.head.holds : TbP wr w.heap.size fs1) (And.intro (HI.out.sep.swap.head.holds : TbP wr w1.heap.size fs2) e1)
          have HT1 : Hid _ := And.intro ((HI.out.sep.head.later (Below.refl _ _).drew).holds : TbP wr.drew w.heap.size fs1) (And.intro ((HI.out.sep.swap.head.later (Below.refl _ _).drew).holds : TbP wr.drew w1.heap.size fs2) e1)
          have q6 : ¬ ((0 : Nat) : Int) - 1 ≥ 0 := by omega
          have HB : Hid _ := hI.be
          clear hI hR HI hk HJ
          go_wp2_with fail
          refine wp_region_held_drew (S := fun W => Below wr.heap.size wr W) (by kernel_rfl) (Below.refl _ _).drew (fun hS => ?_)
          have B0 : Below wr.heap.size wr wr.drew := (Below.refl _ _).drew
          refine any_take (i := 0) (v := ?_) rfl (by kernel_rfl) (by kernel_rfl) (by kernel_rfl) (by exact fun _ _ _ h => h) (by rfl) ?_ hS ?_
          rotate_left
          · ((intro w hSw; (try dsimp only at hSw); go_simp) <;> with_reducible rfl)
          (try simp only [Act.put, List.setIfInBounds_toArray, List.set_cons_zero, List.set_cons_succ])
          refine any_take (i := 1) (v := ?_) rfl (by kernel_rfl) (by kernel_rfl) (by kernel_rfl) (by exact fun _ _ _ h => h) (by rfl) ?_ hS ?_
          rotate_left
          · ((intro w hSw; (try dsimp only at hSw); go_simp) <;> with_reducible rfl)
          (try simp only [Act.put, List.setIfInBounds_toArray, List.set_cons_zero, List.set_cons_succ])
          refine any_one (i := 2) rfl (by kernel_rfl) (fun K hK => ?_)
          go_simp
          refine (Calls.mono ((tbSame_yes w.heap.size w1.heap.size fs1 fs2 _ HT1.out.1 HT1.out.2.1 HT1.out.2.2))) ?_
          rintro e x1 ⟨rfl, hbR⟩
          have B1 : Below wr.heap.size wr x1 := below_then B0 hbR
          go_wp2_with fail
          refine hK.out _ _ (by first | exact B1 | exact hbR | exact below_then hS hbR) (any_weaken (S' := fun W => Below x1.heap.size x1 W) (fun W hW => by first | exact below_then B1 hW | exact below_then hbR hW | exact below_then (below_then hS hbR) hW) _ _ _ _ ?_)
          clear hK K hS hbR
          have hS : Below x1.heap.size x1 x1 := Below.refl _ _
          refine any_take (i := 3) (v := ?_) rfl (by kernel_rfl) (by kernel_rfl) (by kernel_rfl) (by exact fun _ _ _ h => h) (by rfl) ?_ hS ?_
          rotate_left
          · ((intro w hSw; (try dsimp only at hSw); go_simp) <;> with_reducible rfl)
          (try simp only [Act.put, List.setIfInBounds_toArray, List.set_cons_zero, List.set_cons_succ])
          refine any_take (i := 4) (v := ?_) rfl (by kernel_rfl) (by kernel_rfl) (by kernel_rfl) (by exact fun _ _ _ h => h) (by rfl) ?_ hS ?_
          rotate_left
          · ((intro w hSw; (try dsimp only at hSw); go_simp) <;> with_reducible rfl)
          (try simp only [Act.put, List.setIfInBounds_toArray, List.set_cons_zero, List.set_cons_succ])
          refine any_take (i := 7) (v := ?_) rfl (by kernel_rfl) (by kernel_rfl) (by kernel_rfl) (by exact fun _ _ _ h => h) (by rfl) ?_ hS ?_
          rotate_left
          · ((intro w hSw; (try dsimp only at hSw); go_simp) <;> with_reducible rfl)
          (try simp only [Act.put, List.setIfInBounds_toArray, List.set_cons_zero, List.set_cons_succ])
          have K2 : Hid _ := bytes_str w.heap.size fs1 _ ((tb_ok HT.out.1).later B1).holds
          refine any_one (i := 5) rfl (by kernel_rfl) (fun K hK => ?_)
          go_simp
          refine (Calls.mono (K2.out)) ?_
          rintro e x2 ⟨a2, n2, c2, rfl, hc2, hbR⟩
          have B2 : Below wr.heap.size wr x2 := below_then B1 hbR
          clear K2
          go_wp2_with fail
          refine hK.out _ _ (by first | exact B2 | exact hbR | exact below_then hS hbR) (any_weaken (S' := fun W => Below x2.heap.size x2 W) (fun W hW => by first | exact below_then B2 hW | exact below_then hbR hW | exact below_then (below_then hS hbR) hW) _ _ _ _ ?_)
          clear hK K hS hbR
          have hS : Below x2.heap.size x2 x2 := Below.refl _ _
          refine any_take (i := 6) (v := ?_) rfl (by kernel_rfl) (by kernel_rfl) (by kernel_rfl) (by exact fun _ _ _ h => h) (by rfl) ?_ hS ?_
          rotate_left
          · ((intro w hSw; (try dsimp only at hSw); go_simp) <;> with_reducible rfl)
          (try simp only [Act.put, List.setIfInBounds_toArray, List.set_cons_zero, List.set_cons_succ])
          have K3 : Hid _ := bytes_str w1.heap.size fs2 _ ((tb_ok HT.out.2.1).later B2).holds
          refine any_one (i := 8) rfl (by kernel_rfl) (fun K hK => ?_)
          go_simp
          refine (Calls.mono (K3.out)) ?_
          rintro e x3 ⟨a3, n3, c3, rfl, hc3, hbR⟩
          have B3 : Below wr.heap.size wr x3 := below_then B2 hbR
          clear K3
          go_wp2_with fail
          refine hK.out _ _ (by first | exact B3 | exact hbR | exact below_then hS hbR) (any_weaken (S' := fun W => Below x3.heap.size x3 W) (fun W hW => by first | exact below_then B3 hW | exact below_then hbR hW | exact below_then (below_then hS hbR) hW) _ _ _ _ ?_)
          clear hK K hS hbR
          have hS : Below x3.heap.size x3 x3 := Below.refl _ _
          refine any_take (i := 9) (v := ?_) rfl (by kernel_rfl) (by kernel_rfl) (by kernel_rfl) (by exact fun _ _ _ h => h) (by rfl) ?_ hS ?_
          rotate_left
          · ((intro w hSw; (try dsimp only at hSw); go_simp) <;> with_reducible rfl)
          (try simp only [Act.put, List.setIfInBounds_toArray, List.set_cons_zero, List.set_cons_succ])
          refine any_take (i := 10) (v := ?_) rfl (by kernel_rfl) (by kernel_rfl) (by kernel_rfl) (by exact fun _ _ _ h => h) (by rfl) ?_ hS ?_
          rotate_left
          · ((intro w hSw; (try dsimp only at hSw); go_simp) <;> with_reducible rfl)
          (try simp only [Act.put, List.setIfInBounds_toArray, List.set_cons_zero, List.set_cons_succ])
          refine any_take (i := 11) (v := ?_) rfl (by kernel_rfl) (by kernel_rfl) (by kernel_rfl) (by exact fun _ _ _ h => h) (by rfl) ?_ hS ?_
          rotate_left
          · ((intro w hSw; (try dsimp only at hSw); go_simp) <;> with_reducible rfl)
          (try simp only [Act.put, List.setIfInBounds_toArray, List.set_cons_zero, List.set_cons_succ])
          refine any_take (i := 12) (v := ?_) rfl (by kernel_rfl) (by kernel_rfl) (by kernel_rfl) (by exact fun _ _ _ h => h) (by rfl) ?_ hS ?_
          rotate_left
          · ((intro w hSw; (try dsimp only at hSw); go_simp) <;> with_reducible rfl)
          (try simp only [Act.put, List.setIfInBounds_toArray, List.set_cons_zero, List.set_cons_succ])
          refine any_one (i := 13) rfl (by kernel_rfl) (fun K hK => ?_)
          go_simp
          refine (Calls.mono ((known12_any _))) ?_
          rintro e x4 ⟨rfl, hbR⟩
          have B4 : Below wr.heap.size wr x4 := below_then B3 hbR
          go_wp2_with fail
          refine hK.out _ _ (by first | exact B4 | exact hbR | exact below_then hS hbR) (any_weaken (S' := fun W => Below x4.heap.size x4 W) (fun W hW => by first | exact below_then B4 hW | exact below_then hbR hW | exact below_then (below_then hS hbR) hW) _ _ _ _ ?_)
          clear hK K hS hbR
          have hS : Below x4.heap.size x4 x4 := Below.refl _ _
          refine any_take (i := 14) (v := ?_) rfl (by kernel_rfl) (by kernel_rfl) (by kernel_rfl) (by exact fun _ _ _ h => h) (by rfl) ?_ hS ?_
          rotate_left
          · ((intro w hSw; (try dsimp only at hSw); go_simp) <;> with_reducible rfl)
          (try simp only [Act.put, List.setIfInBounds_toArray, List.set_cons_zero, List.set_cons_succ])
          refine any_take (i := 15) (v := ?_) rfl (by kernel_rfl) (by kernel_rfl) (by kernel_rfl) (by exact fun _ _ _ h => h) (by rfl) ?_ hS ?_
          rotate_left
          · ((intro w hSw; (try dsimp only at hSw); go_simp) <;> with_reducible rfl)
          (try simp only [Act.put, List.setIfInBounds_toArray, List.set_cons_zero, List.set_cons_succ])
          refine wpAnyH_done (by kernel_rfl) ?_ _
          have F : Hid _ := below_then HB.out B4
          go_wp2
          go_ret
          exact ⟨rfl, F.out⟩
        · obtain ⟨j, rfl⟩ : ∃ j, k = j + 1 := ⟨k - 1, by omega⟩
          have hjl : j < P.length := by omega
          have hcl := hI.own
          obtain ⟨b, hla, hcc⟩ := hcl.cells j hjl
          subst hla
          obtain ⟨r, hr⟩ : ∃ r, r = P[j] := ⟨_, rfl⟩
          rw [← hr] at hcc
          obtain ⟨hDr, hcr, hEr⟩ := HJ.out.2.dat r (by rw [hr]; exact List.getElem_mem hjl)
          have hdj : P.drop j = r :: P.drop (j + 1) := by rw [hr]; exact List.drop_eq_getElem_cons hjl
          have hno : ∀ r' ∈ P.drop (j + 1), ¬ (r'.q = r.q ∧ r'.n = r.n) := fun r' hr' e => by
            have hp := HJ.out.2.nd
            have hp2 : (r :: P.drop (j + 1)).Pairwise (fun r r' => ¬ (r.q = r'.q ∧ r.n = r'.n)) := by rw [← hdj]; exact hp.sublist (List.drop_sublist j P)
            exact (List.pairwise_cons.1 hp2).1 r' hr' ⟨e.1.symm, e.2.symm⟩
          have hE0 := repr_can hR hcr hEr hno
          have hR2 := (repr_put hR (by omega) hE0).1
          rw [← hdj] at hR2
          have x1' : ∀ W, OrOwn W (.slice (some ⟨b, 0, none⟩) P.length lc) P → W.cell? ⟨b, j * 8 + 1, none⟩ = some (.int .i64 r.q) := fun W hW => hcc W hW 1 (by omega)
          have x2' : ∀ W, OrOwn W (.slice (some ⟨b, 0, none⟩) P.length lc) P → W.cell? ⟨b, j * 8 + 2, none⟩ = some (.int .i64 r.n) := fun W hW => hcc W hW 2 (by omega)
          have x3' : ∀ W, OrOwn W (.slice (some ⟨b, 0, none⟩) P.length lc) P → W.cell? ⟨b, j * 8 + 3, none⟩ = some (.int .i64 r.a) := fun W hW => hcc W hW 3 (by omega)
          have x4' : ∀ W, OrOwn W (.slice (some ⟨b, 0, none⟩) P.length lc) P → W.cell? ⟨b, j * 8 + 4, none⟩ = some (.int .i64 r.b) := fun W hW => hcc W hW 4 (by omega)
          have x5' : ∀ W, OrOwn W (.slice (some ⟨b, 0, none⟩) P.length lc) P → W.cell? ⟨b, j * 8 + 5, none⟩ = some (.int .i64 r.c) := fun W hW => hcc W hW 5 (by omega)
          have x6' : ∀ W, OrOwn W (.slice (some ⟨b, 0, none⟩) P.length lc) P → W.cell? ⟨b, j * 8 + 6, none⟩ = some (.int .i64 r.d) := fun W hW => hcc W hW 6 (by omega)
          have x7' : ∀ W, OrOwn W (.slice (some ⟨b, 0, none⟩) P.length lc) P → W.cell? ⟨b, j * 8 + 7, none⟩ = some (.slice r.x r.l.length r.cp) := fun W hW => hcc W hW 7 (by omega)
          have HD : Hid _ := HI.out.later (Below.refl _ _).drew
          have NP : Hid _ := tbPut_any w1.heap.size fs2 r.q r.n r.a r.b r.c r.d r.x r.cp r.l wr.drew HD.out.sep.swap.head hDr.most hDr.le hDr.nil (hDr.row.later HD.out.be)
          rw [show prE r.a r.b r.c r.d r.l.length = r.e from rfl, hE0] at NP
          rw [hE0] at hR2
          have HR2 : Hid _ := hR2
          have hjj : (((j + 1 : Nat) : Int) - 1) = (j : Int) := by omega
          rw [hjj]
          have q6 : (j : Int) ≥ 0 := by omega
          have q7 : (j : Int) < P.length := by omega
          clear hI hcl hcc hr hDr hcr hEr hdj hno hE0 hR2 hR hjj h0
          go_wp2_with fail
          refine e_begin (S := fun W => OrOwn W (.slice (some ⟨b, 0, none⟩) P.length lc) P) 17 (by kernel_rfl) (HD.out.own) (fun hS => ?_)
          refine e_take (i := 0) (v := ?_) [16, 17] rfl (by kernel_rfl) (by kernel_rfl) (by kernel_rfl) (by kernel_rfl) (by exact fun _ _ _ h => h) (by rfl) ?_ hS ?_
          rotate_left
          · ((intro w hSw; (try dsimp only at hSw); go_simp) <;> with_reducible rfl)
          (try simp only [Act.put, List.setIfInBounds_toArray, List.set_cons_zero, List.set_cons_succ])
          refine e_take (i := 1) (v := ?_) [3, 4, 5, 16, 17] rfl (by kernel_rfl) (by kernel_rfl) (by kernel_rfl) (by kernel_rfl) (by exact fun _ _ _ h => h) (by rfl) ?_ hS ?_
          rotate_left
          · ((intro w hSw; (try dsimp only at hSw); go_simp) <;> with_reducible rfl)
          (try simp only [Act.put, List.setIfInBounds_toArray, List.set_cons_zero, List.set_cons_succ])
          refine e_take (i := 2) (v := ?_) [3, 4, 5, 16, 17] rfl (by kernel_rfl) (by kernel_rfl) (by kernel_rfl) (by kernel_rfl) (by exact fun _ _ _ h => h) (by rfl) ?_ hS ?_
          rotate_left
          · ((intro w hSw; (try dsimp only at hSw); go_simp) <;> with_reducible rfl)
          (try simp only [Act.put, List.setIfInBounds_toArray, List.set_cons_zero, List.set_cons_succ])
          refine e_take (i := 3) (v := ?_) [4, 5, 16, 17] rfl (by kernel_rfl) (by kernel_rfl) (by kernel_rfl) (by kernel_rfl) (by exact fun _ _ _ h => h) (by rfl) ?_ hS ?_
          rotate_left
          · ((intro w hSw; (try dsimp only at hSw); go_simp) <;> with_reducible rfl)
          (try simp only [Act.put, List.setIfInBounds_toArray, List.set_cons_zero, List.set_cons_succ])
          refine e_take (i := 4) (v := ?_) [5, 16, 17] rfl (by kernel_rfl) (by kernel_rfl) (by kernel_rfl) (by kernel_rfl) (by exact fun _ _ _ h => h) (by rfl) ?_ hS ?_
          rotate_left
          · ((intro w hSw; (try dsimp only at hSw); go_simp) <;> with_reducible rfl)
          (try simp only [Act.put, List.setIfInBounds_toArray, List.set_cons_zero, List.set_cons_succ])
          refine e_take (i := 5) (v := ?_) [16, 17] rfl (by kernel_rfl) (by kernel_rfl) (by kernel_rfl) (by kernel_rfl) (by exact fun _ _ _ h => h) (by rfl) ?_ hS ?_
          rotate_left
          · ((intro w hSw; (try dsimp only at hSw); go_simp) <;> with_reducible rfl)
          (try simp only [Act.put, List.setIfInBounds_toArray, List.set_cons_zero, List.set_cons_succ])
          refine e_take (i := 6) (v := ?_) [8, 9, 10, 16, 17] rfl (by kernel_rfl) (by kernel_rfl) (by kernel_rfl) (by kernel_rfl) (by exact fun _ _ _ h => h) (by rfl) ?_ hS ?_
          rotate_left
          · ((intro w hSw; (try dsimp only at hSw); go_simp) <;> with_reducible rfl)
          (try simp only [Act.put, List.setIfInBounds_toArray, List.set_cons_zero, List.set_cons_succ])
          refine e_take (i := 7) (v := ?_) [8, 9, 10, 16, 17] rfl (by kernel_rfl) (by kernel_rfl) (by kernel_rfl) (by kernel_rfl) (by exact fun _ _ _ h => h) (by rfl) ?_ hS ?_
          rotate_left
          · ((intro w hSw; (try dsimp only at hSw); go_simp) <;> with_reducible rfl)
          (try simp only [Act.put, List.setIfInBounds_toArray, List.set_cons_zero, List.set_cons_succ])
          refine e_take (i := 8) (v := ?_) [9, 10, 16, 17] rfl (by kernel_rfl) (by kernel_rfl) (by kernel_rfl) (by kernel_rfl) (by exact fun _ _ _ h => h) (by rfl) ?_ hS ?_
          rotate_left
          · ((intro w hSw; (try dsimp only at hSw); go_simp) <;> with_reducible rfl)
          (try simp only [Act.put, List.setIfInBounds_toArray, List.set_cons_zero, List.set_cons_succ])
          refine e_take (i := 9) (v := ?_) [10, 16, 17] rfl (by kernel_rfl) (by kernel_rfl) (by kernel_rfl) (by kernel_rfl) (by exact fun _ _ _ h => h) (by rfl) ?_ hS ?_
          rotate_left
          · ((intro w hSw; (try dsimp only at hSw); go_simp) <;> with_reducible rfl)
          (try simp only [Act.put, List.setIfInBounds_toArray, List.set_cons_zero, List.set_cons_succ])
          refine e_take (i := 10) (v := ?_) [16, 17] rfl (by kernel_rfl) (by kernel_rfl) (by kernel_rfl) (by kernel_rfl) (by exact fun _ _ _ h => h) (by rfl) ?_ hS ?_
          rotate_left
          · ((intro w hSw; (try dsimp only at hSw); go_simp) <;> with_reducible rfl)
          (try simp only [Act.put, List.setIfInBounds_toArray, List.set_cons_zero, List.set_cons_succ])
          refine e_take (i := 11) (v := ?_) [13, 14, 15, 16, 17] rfl (by kernel_rfl) (by kernel_rfl) (by kernel_rfl) (by kernel_rfl) (by exact fun _ _ _ h => h) (by rfl) ?_ hS ?_
          rotate_left
          · ((intro w hSw; (try dsimp only at hSw); go_simp) <;> with_reducible rfl)
          (try simp only [Act.put, List.setIfInBounds_toArray, List.set_cons_zero, List.set_cons_succ])
          refine e_take (i := 12) (v := ?_) [13, 14, 15, 16, 17] rfl (by kernel_rfl) (by kernel_rfl) (by kernel_rfl) (by kernel_rfl) (by exact fun _ _ _ h => h) (by rfl) ?_ hS ?_
          rotate_left
          · ((intro w hSw; (try dsimp only at hSw); go_simp) <;> with_reducible rfl)
          (try simp only [Act.put, List.setIfInBounds_toArray, List.set_cons_zero, List.set_cons_succ])
          refine e_take (i := 13) (v := ?_) [14, 15, 16, 17] rfl (by kernel_rfl) (by kernel_rfl) (by kernel_rfl) (by kernel_rfl) (by exact fun _ _ _ h => h) (by rfl) ?_ hS ?_
          rotate_left
          · ((intro w hSw; (try dsimp only at hSw); go_simp) <;> with_reducible rfl)
          (try simp only [Act.put, List.setIfInBounds_toArray, List.set_cons_zero, List.set_cons_succ])
          refine e_take (i := 14) (v := ?_) [15, 16, 17] rfl (by kernel_rfl) (by kernel_rfl) (by kernel_rfl) (by kernel_rfl) (by exact fun _ _ _ h => h) (by rfl) ?_ hS ?_
          rotate_left
          · ((intro w hSw; (try dsimp only at hSw); go_simp) <;> with_reducible rfl)
          (try simp only [Act.put, List.setIfInBounds_toArray, List.set_cons_zero, List.set_cons_succ])
          refine e_take (i := 15) (v := ?_) [16, 17] rfl (by kernel_rfl) (by kernel_rfl) (by kernel_rfl) (by kernel_rfl) (by exact fun _ _ _ h => h) (by rfl) ?_ hS ?_
          rotate_left
          · ((intro w hSw; (try dsimp only at hSw); go_simp) <;> with_reducible rfl)
          (try simp only [Act.put, List.setIfInBounds_toArray, List.set_cons_zero, List.set_cons_succ])
          refine e_one (i := 16) rfl (by kernel_rfl) (fun K hK => ?_)
          go_simp
          refine (Calls.mono (NP.out)) ?_
          rintro e v1 ⟨fs', rfl, st, hfs⟩
          have C1 := HD.out.put st
          have H1 : Hid _ := And.intro C1 hfs
          clear st hfs NP
          go_wp2_with fail
          refine hK.out _ _ (H1.out.1.own) (fun hS => ?_)
          clear hK K
          clear hS
          refine e_last (z := 17) rfl (by kernel_rfl) (fun K hK => ?_)
          go_simp
          refine hK.out _ _ ?_
          clear hK K
          refine e_done (by kernel_rfl) ?_ _
          have F : Hid _ := And.intro H1.out.1 (by rw [H1.out.2]; exact HR2.out : Repr12 (fsm fs') (P.drop j) (P.length - (j + 1) + 1))
          clear x1' x2' x3' x4' x5' x6' x7' H1 HR2 HD HI
          go_wp2
          go_roundw
          case rel => exact ⟨j, fs', by go_num, by omega, F.out.1, by have := F.out.2; rw [show P.length - (j + 1) + 1 = P.length - j by omega] at this; exact this⟩
          case measure => first | (simp [intOf]; omega) | simp [intOf]
end Go.Proofs.Ytkcbbaanlkpeiaa

