/- Both disks, held against each other. -/
import Derived.Test.YtmhnlfgakpelkaaDkR9
import Derived.Test.YtmhnlfgakpelkaaDkX
namespace Go.Proofs.Ytmhnlfgakpelkaa
open Go.RowKit
set_option linter.unusedVariables false

def rdL (d : Dm) (a k : Int) : List (BitVec 8) := if hasB d.n a k then ((nowOf d.safe d.gs).drop (a.toNat * 256)).take (k.toNat * 256) else []
def rdE (d : Dm) (a k : Int) : Int := if hasB d.n a k then 0 else 1
theorem rdL_len {d : Dm} (hw : d.Wf) (a k : Int) : (rdL d a k).length ≤ 1048576 := by
  unfold rdL
  split
  · rw [List.length_take, List.length_drop, hw.now]; have := hw.len; omega
  · simp
theorem Read_any (g : Nat) (p : Pl) (d : Dm) (a k : Int) (w : World) (h : (dk g p d).Ok w) (hw : d.Wf) (ha : -9223372036854775808 ≤ a ∧ a ≤ 9223372036854775807) (hk : -9223372036854775808 ≤ k ∧ k ≤ 9223372036854775807) :
    Calls Try.prog 26 #[.pointer (some ⟨g, 0, none⟩), .int .i64 a, .int .i64 k] w fun e w' => ∃ v, e = .returned (.tuple #[v, .int .i64 (rdE d a k)]) ∧ Own w' w.heap.size v (rdL d a k) ∧ Below w.heap.size w w' := by
  unfold rdL rdE
  cases hb : hasB d.n a k with
  | false =>
    refine (Read_no g p d a k w h hw ha hk hb).mono ?_
    rintro e w' ⟨rfl, rfl⟩
    exact ⟨_, rfl, World.ownsRow_nil _ _ _ _, Below.refl _ _⟩
  | true =>
    obtain ⟨x, y, rfl, rfl, h1, h2⟩ := hasB_yes hb
    exact Read_yes g p d x y w h hw h1 h2
theorem rRead_any (g : Nat) (q r : Option Nat) (V : List Nat) (d : Dm) (a k : Int) (w : World) (h : (rdk g q r V d).Ok w) (hw : d.Wf) (hgs : d.gs.length ≤ 1000000) (ha : -9223372036854775808 ≤ a ∧ a ≤ 9223372036854775807) (hk : -9223372036854775808 ≤ k ∧ k ≤ 9223372036854775807) :
    Calls Try.prog 36 #[.pointer (some ⟨g, 0, none⟩), .int .i64 a, .int .i64 k] w fun e w' => ∃ x len cap, e = .returned (.tuple #[.slice x len cap, .int .i64 (rdE d a k)]) ∧ (rdL d a k).length = len ∧ Row w' x (rdL d a k) ∧ Below w.heap.size w w' := by
  unfold rdL rdE
  cases hb : hasB d.n a k with
  | false =>
    refine (rRead_no g q r V d a k w h hw ha hk hb).mono ?_
    rintro e w' ⟨rfl, hb'⟩
    exact ⟨_, _, _, rfl, rfl, .inl rfl, hb'⟩
  | true =>
    obtain ⟨x, y, rfl, rfl, h1, h2⟩ := hasB_yes hb
    refine (rRead_yes g q r V d x y w h hw hgs h1 h2).mono ?_
    rintro e w' ⟨m, cap, rfl, hr, hb'⟩
    refine ⟨_, _, _, rfl, ?_, hr, hb'⟩
    have e1 := hw.now
    have e2 := hw.len
    simp only [if_true, Int.toNat_natCast, List.length_take, List.length_drop, e1]
    omega
theorem rImage_str (g : Nat) (q r : Option Nat) (V : List Nat) (d : Dm) (w : World) (h : (rdk g q r V d).Ok w) (hw : d.Wf) (L : List (BitVec 8)) (hL : d.safe = L) :
    Calls Try.prog 37 #[.pointer (some ⟨g, 0, none⟩)] w fun e w' => ∃ a len cap, e = .returned (.slice a len cap) ∧ (∀ X, Below w'.heap.size w' X → (convert 22 9 (.slice a len cap)).run Try.prog X = .ok (.string (str L)) X) ∧ Below w'.heap.size w' w' ∧ Below w.heap.size w w' := by
  refine (rImage_any g q r V d w h hw).mono ?_
  rintro e w' ⟨v, rfl, ho, hb⟩
  obtain ⟨a, cap, rfl, _, _, hr, _, _⟩ := ho.open
  rw [hL] at hr
  exact ⟨a, _, cap, rfl, fun X hX => (hr.later hX).str _ _ (by rw [hL]), Below.refl _ _, hb⟩
theorem rNow_str (g : Nat) (q r : Option Nat) (V : List Nat) (d : Dm) (w : World) (h : (rdk g q r V d).Ok w) (hw : d.Wf) (hgs : d.gs.length ≤ 1000000) (L : List (BitVec 8)) (hL : nowOf d.safe d.gs = L) :
    Calls Try.prog 38 #[.pointer (some ⟨g, 0, none⟩)] w fun e w' => ∃ a len cap, e = .returned (.slice a len cap) ∧ (∀ X, Below w'.heap.size w' X → (convert 22 9 (.slice a len cap)).run Try.prog X = .ok (.string (str L)) X) ∧ Below w'.heap.size w' w' ∧ Below w.heap.size w w' := by
  refine (rNow_any g q r V d w h hw hgs).mono ?_
  rintro e w' ⟨v, rfl, ho, hb⟩
  obtain ⟨a, cap, rfl, _, _, hr, _, _⟩ := ho.open
  rw [hL] at hr
  exact ⟨a, _, cap, rfl, fun X hX => (hr.later hX).str _ _ (by rw [hL]), Below.refl _ _, hb⟩

set_option maxRecDepth 8000 in
set_option maxHeartbeats 4000000 in
theorem alike_any (g : Nat) (p : Pl) (d : Dm) (g' : Nat) (q r : Option Nat) (V : List Nat) (at' n : Int) (w : World) (hk : (dk g p d).Ok w) (hr : (rdk g' q r V d).Ok w) (hw : d.Wf) (hgs : d.gs.length ≤ 1000000) (ha : -9223372036854775808 ≤ at' ∧ at' ≤ 9223372036854775807) (hn : -9223372036854775808 ≤ n ∧ n ≤ 9223372036854775807) :
    Calls Try.prog 17 #[.pointer (some ⟨g, 0, none⟩), .pointer (some ⟨g', 0, none⟩), .int .i64 at', .int .i64 n] w fun e w' => e = .returned (.bool true) ∧ Below w.heap.size w w' := by
  obtain ⟨_, sv, lv, S, vs, ls, hq', hr', hD⟩ := hr.holds
  have c0 := hD.blk.cell (by simp [maxLen]) 0 (by simp)
  have c1 := hD.blk.cell (by simp [maxLen]) 1 (by simp)
  have c3 := hD.blk.cell (by simp [maxLen]) 3 (by simp)
  simp only [List.getElem?_cons_succ, List.getElem?_cons_zero] at c0 c1 c3
  obtain ⟨qa, qc, hsv⟩ := own_form hD.safe
  rw [hsv, hD.count hw] at c0
  obtain ⟨la, lc, hlv⟩ := own_form hD.groups
  rw [hlv] at c1
  clear hq' hr' hD hsv hlv
  have HC : Hid _ := And.intro c0 (And.intro c1 c3)
  have H : Hid _ := And.intro hk (And.intro hr hw)
  clear c0 c1 c3 hk hr hw
  go_enter Try.func17, Try.ntmps17
  go_wp2_with fail
  refine (Image_any g p d w H.out.1 H.out.2.2).mono ?_
  rintro e w1 ⟨v1, rfl, o1, b1⟩
  have O1 : Hid _ := And.intro o1 b1
  obtain ⟨a1, l1, d1, rfl, s1⟩ := o1.strs
  have S1 : Hid _ := s1
  clear o1 b1 s1
  go_wp2_with fail
  refine (Now_any g p d w1 (H.out.1.later O1.out.2) H.out.2.2).mono ?_
  rintro e w2 ⟨v2, rfl, o2, b2⟩
  have B2 := below_then O1.out.2 b2
  have O2 : Hid _ := And.intro o2 (And.intro b2 B2)
  obtain ⟨a2, l2, d2, rfl, s2⟩ := o2.strs
  have S2 : Hid _ := s2
  clear o2 b2 s2 B2
  go_wp2_with fail
  refine (Read_any g p d at' n w2 (H.out.1.later O2.out.2.2) H.out.2.2 ha hn).mono ?_
  rintro e w3 ⟨v3, rfl, o3, b3⟩
  have B3 := below_then O2.out.2.2 b3
  have O3 : Hid _ := And.intro o3 (And.intro b3 B3)
  obtain ⟨a3, l3, d3, rfl, s3⟩ := o3.strs
  have S3 : Hid _ := s3
  clear o3 b3 s3 B3
  go_wp2_with fail
  refine (rRead_any g' q r V d at' n w3 (H.out.2.1.later O3.out.2.2) H.out.2.2 hgs ha hn).mono ?_
  rintro e w4 ⟨a4, l4, d4, rfl, hl4, r4, b4⟩
  have B4 := below_then O3.out.2.2 b4
  have S4 : Hid (∀ X, Below w4.heap.size w4 X → (convert 22 9 (.slice a4 l4 d4)).run Try.prog X = .ok (.string (str (rdL d at' n))) X) := fun X hX => (r4.later hX).str _ _ hl4
  have O4 : Hid _ := And.intro b4 B4
  clear r4 b4 hl4 B4
  go_wp2_with fail
  go_cut [87] from 33 to 87 (fun c wx => c = .bool false ∧ Below w4.heap.size w4 wx)
  case first =>
    have Sd : Below w4.heap.size w4 w4.drew := (Below.refl _ _).drew
    have k1 : ∀ X, Below w4.heap.size w4 X → (convert 22 9 (.slice a1 l1 d1)).run Try.prog X = .ok (.string (str d.safe)) X := fun X hX => S1.out X (below_then O2.out.2.1 (below_then O3.out.2.1 (below_then O4.out.1 hX)))
    have K2 : Hid (∀ X, Below w4.heap.size w4 X → (convert 22 9 (.slice a2 l2 d2)).run Try.prog X = .ok (.string (str (nowOf d.safe d.gs))) X) := fun X hX => S2.out X (below_then O3.out.2.1 (below_then O4.out.1 hX))
    have K3 : Hid (∀ X, Below w4.heap.size w4 X → (convert 22 9 (.slice a3 l3 d3)).run Try.prog X = .ok (.string (str (rdL d at' n))) X) := fun X hX => S3.out X (below_then O4.out.1 hX)
    have T1 : Hid _ := fun (W : World) (hW : Below w4.heap.size w4 W) => rImage_str g' q r V d W (H.out.2.1.later (below_then O4.out.2 hW)) H.out.2.2 d.safe rfl
    have T2 : Hid _ := fun (W : World) (hW : Below w4.heap.size w4 W) => rNow_str g' q r V d W (H.out.2.1.later (below_then O4.out.2 hW)) H.out.2.2 hgs (nowOf d.safe d.gs) rfl
    have T3 : Hid _ := fun (W : World) (hW : Below w4.heap.size w4 W) => Size_any g p d W (H.out.1.later (below_then O4.out.2 hW)) H.out.2.2
    have T4 : Hid _ := fun (W : World) (hW : Below w4.heap.size w4 W) => Pending_any g p d W (H.out.1.later (below_then O4.out.2 hW)) hgs
    have T5 : Hid _ := fun (W : World) (hW : Below w4.heap.size w4 W) => Dead_any g p d W (H.out.1.later (below_then O4.out.2 hW))
    have L0 : Hid _ := fun (W : World) (hW : Below w4.heap.size w4 W) => (cell_later (below_then O4.out.2 hW) HC.out.1)
    have L1 : Hid _ := fun (W : World) (hW : Below w4.heap.size w4 W) => (cell_later (below_then O4.out.2 hW) HC.out.2.1)
    have L3 : Hid _ := fun (W : World) (hW : Below w4.heap.size w4 W) => (cell_later (below_then O4.out.2 hW) HC.out.2.2)
    clear S1 S2 S3 O1 O2 O3 O4 H HC
    generalize rdL d at' n = RL at *
    generalize rdE d at' n = RE at *
    generalize nowOf d.safe d.gs = N at *
    generalize d.safe = SA at *
    refine wp_region_held_drew (S := fun W => Below w4.heap.size w4 W) (by kernel_rfl) Sd (fun hS => ?_)
    have B0 : Below w4.heap.size w4 w4.drew := Sd
    refine any_take (i := 0) (v := ?_) rfl (by kernel_rfl) (by kernel_rfl) (by kernel_rfl) (by exact fun _ _ _ h => h) (by rfl) ?_ hS ?_
    rotate_left
    · ((intro w hSw; (try dsimp only at hSw); go_simp) <;> with_reducible rfl)
    (try simp only [Act.put, List.setIfInBounds_toArray, List.set_cons_zero, List.set_cons_succ])
    refine any_take (i := 1) (v := ?_) rfl (by kernel_rfl) (by kernel_rfl) (by kernel_rfl) (by exact fun _ _ _ h => h) (by rfl) ?_ hS ?_
    rotate_left
    · ((intro w hSw; (try dsimp only at hSw); go_simp) <;> with_reducible rfl)
    (try simp only [Act.put, List.setIfInBounds_toArray, List.set_cons_zero, List.set_cons_succ])
    refine any_take (i := 2) (v := ?_) rfl (by kernel_rfl) (by kernel_rfl) (by kernel_rfl) (by exact fun _ _ _ h => h) (by rfl) ?_ hS ?_
    rotate_left
    · ((intro w hSw; (try dsimp only at hSw); go_simp) <;> with_reducible rfl)
    (try simp only [Act.put, List.setIfInBounds_toArray, List.set_cons_zero, List.set_cons_succ])
    clear k1
    have K1 : Hid _ := T1.out _ B0
    refine any_one (i := 3) rfl (by kernel_rfl) (fun K hK => ?_)
    go_simp
    refine (Calls.mono (K1.out)) ?_
    rintro e x1 ⟨a1, l1, c1, rfl, hc1, -, hbR⟩
    have B1 : Below w4.heap.size w4 x1 := below_then B0 hbR
    clear K1
    go_wp2_with fail
    refine hK.out _ _ (by first | exact B1 | exact hbR | exact below_then hS hbR) (any_weaken (S' := fun W => Below x1.heap.size x1 W) (fun W hW => by first | exact below_then B1 hW | exact below_then hbR hW | exact below_then (below_then hS hbR) hW) _ _ _ _ ?_)
    clear hK K hS hbR
    have hS : Below x1.heap.size x1 x1 := Below.refl _ _
    refine any_take (i := 4) (v := ?_) rfl (by kernel_rfl) (by kernel_rfl) (by kernel_rfl) (by exact fun _ _ _ h => h) (by rfl) ?_ hS ?_
    rotate_left
    · ((intro w hSw; (try dsimp only at hSw); go_simp) <;> with_reducible rfl)
    (try simp only [Act.put, List.setIfInBounds_toArray, List.set_cons_zero, List.set_cons_succ])
    refine any_take (i := 5) (v := ?_) rfl (by kernel_rfl) (by kernel_rfl) (by kernel_rfl) (by exact fun _ _ _ h => h) (by rfl) ?_ hS ?_
    rotate_left
    · ((intro w hSw; (try dsimp only at hSw); go_simp) <;> with_reducible rfl)
    (try simp only [Act.put, List.setIfInBounds_toArray, List.set_cons_zero, List.set_cons_succ])
    refine any_take (i := 6) (v := ?_) rfl (by kernel_rfl) (by kernel_rfl) (by kernel_rfl) (by exact fun _ _ _ h => h) (by rfl) ?_ hS ?_
    rotate_left
    · ((intro w hSw; (try dsimp only at hSw); go_simp) <;> with_reducible rfl)
    (try simp only [Act.put, List.setIfInBounds_toArray, List.set_cons_zero, List.set_cons_succ])
    have k2 := fun (X : World) (hX : Below x1.heap.size x1 X) => K2.out X (below_then B1 hX)
    refine any_take (i := 7) (v := ?_) rfl (by kernel_rfl) (by kernel_rfl) (by kernel_rfl) (by exact fun _ _ _ h => h) (by rfl) ?_ hS ?_
    rotate_left
    · ((intro w hSw; (try dsimp only at hSw); go_simp) <;> with_reducible rfl)
    (try simp only [Act.put, List.setIfInBounds_toArray, List.set_cons_zero, List.set_cons_succ])
    refine any_take (i := 8) (v := ?_) rfl (by kernel_rfl) (by kernel_rfl) (by kernel_rfl) (by exact fun _ _ _ h => h) (by rfl) ?_ hS ?_
    rotate_left
    · ((intro w hSw; (try dsimp only at hSw); go_simp) <;> with_reducible rfl)
    (try simp only [Act.put, List.setIfInBounds_toArray, List.set_cons_zero, List.set_cons_succ])
    refine any_take (i := 9) (v := ?_) rfl (by kernel_rfl) (by kernel_rfl) (by kernel_rfl) (by exact fun _ _ _ h => h) (by rfl) ?_ hS ?_
    rotate_left
    · ((intro w hSw; (try dsimp only at hSw); go_simp) <;> with_reducible rfl)
    (try simp only [Act.put, List.setIfInBounds_toArray, List.set_cons_zero, List.set_cons_succ])
    clear k2
    have K2 : Hid _ := T2.out _ B1
    refine any_one (i := 10) rfl (by kernel_rfl) (fun K hK => ?_)
    go_simp
    refine (Calls.mono (K2.out)) ?_
    rintro e x2 ⟨a2, l2, c2, rfl, hc2, -, hbR⟩
    have B2 : Below w4.heap.size w4 x2 := below_then B1 hbR
    clear K2
    go_wp2_with fail
    refine hK.out _ _ (by first | exact B2 | exact hbR | exact below_then hS hbR) (any_weaken (S' := fun W => Below x2.heap.size x2 W) (fun W hW => by first | exact below_then B2 hW | exact below_then hbR hW | exact below_then (below_then hS hbR) hW) _ _ _ _ ?_)
    clear hK K hS hbR
    have hS : Below x2.heap.size x2 x2 := Below.refl _ _
    refine any_take (i := 11) (v := ?_) rfl (by kernel_rfl) (by kernel_rfl) (by kernel_rfl) (by exact fun _ _ _ h => h) (by rfl) ?_ hS ?_
    rotate_left
    · ((intro w hSw; (try dsimp only at hSw); go_simp) <;> with_reducible rfl)
    (try simp only [Act.put, List.setIfInBounds_toArray, List.set_cons_zero, List.set_cons_succ])
    refine any_take (i := 12) (v := ?_) rfl (by kernel_rfl) (by kernel_rfl) (by kernel_rfl) (by exact fun _ _ _ h => h) (by rfl) ?_ hS ?_
    rotate_left
    · ((intro w hSw; (try dsimp only at hSw); go_simp) <;> with_reducible rfl)
    (try simp only [Act.put, List.setIfInBounds_toArray, List.set_cons_zero, List.set_cons_succ])
    refine any_take (i := 13) (v := ?_) rfl (by kernel_rfl) (by kernel_rfl) (by kernel_rfl) (by exact fun _ _ _ h => h) (by rfl) ?_ hS ?_
    rotate_left
    · ((intro w hSw; (try dsimp only at hSw); go_simp) <;> with_reducible rfl)
    (try simp only [Act.put, List.setIfInBounds_toArray, List.set_cons_zero, List.set_cons_succ])
    refine any_take (i := 14) (v := ?_) rfl (by kernel_rfl) (by kernel_rfl) (by kernel_rfl) (by exact fun _ _ _ h => h) (by rfl) ?_ hS ?_
    rotate_left
    · ((intro w hSw; (try dsimp only at hSw); go_simp) <;> with_reducible rfl)
    (try simp only [Act.put, List.setIfInBounds_toArray, List.set_cons_zero, List.set_cons_succ])
    have k3 := fun (X : World) (hX : Below x2.heap.size x2 X) => K3.out X (below_then B2 hX)
    have k4 := fun (X : World) (hX : Below x2.heap.size x2 X) => S4.out X (below_then B2 hX)
    refine any_take (i := 15) (v := ?_) rfl (by kernel_rfl) (by kernel_rfl) (by kernel_rfl) (by exact fun _ _ _ h => h) (by rfl) ?_ hS ?_
    rotate_left
    · ((intro w hSw; (try dsimp only at hSw); go_simp) <;> with_reducible rfl)
    (try simp only [Act.put, List.setIfInBounds_toArray, List.set_cons_zero, List.set_cons_succ])
    refine any_take (i := 16) (v := ?_) rfl (by kernel_rfl) (by kernel_rfl) (by kernel_rfl) (by exact fun _ _ _ h => h) (by rfl) ?_ hS ?_
    rotate_left
    · ((intro w hSw; (try dsimp only at hSw); go_simp) <;> with_reducible rfl)
    (try simp only [Act.put, List.setIfInBounds_toArray, List.set_cons_zero, List.set_cons_succ])
    refine any_take (i := 17) (v := ?_) rfl (by kernel_rfl) (by kernel_rfl) (by kernel_rfl) (by exact fun _ _ _ h => h) (by rfl) ?_ hS ?_
    rotate_left
    · ((intro w hSw; (try dsimp only at hSw); go_simp) <;> with_reducible rfl)
    (try simp only [Act.put, List.setIfInBounds_toArray, List.set_cons_zero, List.set_cons_succ])
    refine any_take (i := 18) (v := ?_) rfl (by kernel_rfl) (by kernel_rfl) (by kernel_rfl) (by exact fun _ _ _ h => h) (by rfl) ?_ hS ?_
    rotate_left
    · ((intro w hSw; (try dsimp only at hSw); go_simp) <;> with_reducible rfl)
    (try simp only [Act.put, List.setIfInBounds_toArray, List.set_cons_zero, List.set_cons_succ])
    refine any_take (i := 19) (v := ?_) rfl (by kernel_rfl) (by kernel_rfl) (by kernel_rfl) (by exact fun _ _ _ h => h) (by rfl) ?_ hS ?_
    rotate_left
    · ((intro w hSw; (try dsimp only at hSw); go_simp) <;> with_reducible rfl)
    (try simp only [Act.put, List.setIfInBounds_toArray, List.set_cons_zero, List.set_cons_succ])
    refine any_take (i := 20) (v := ?_) rfl (by kernel_rfl) (by kernel_rfl) (by kernel_rfl) (by exact fun _ _ _ h => h) (by rfl) ?_ hS ?_
    rotate_left
    · ((intro w hSw; (try dsimp only at hSw); go_simp) <;> with_reducible rfl)
    (try simp only [Act.put, List.setIfInBounds_toArray, List.set_cons_zero, List.set_cons_succ])
    refine any_take (i := 21) (v := ?_) rfl (by kernel_rfl) (by kernel_rfl) (by kernel_rfl) (by exact fun _ _ _ h => h) (by rfl) ?_ hS ?_
    rotate_left
    · ((intro w hSw; (try dsimp only at hSw); go_simp) <;> with_reducible rfl)
    (try simp only [Act.put, List.setIfInBounds_toArray, List.set_cons_zero, List.set_cons_succ])
    clear k3 k4
    refine any_take (i := 22) (v := ?_) rfl (by kernel_rfl) (by kernel_rfl) (by kernel_rfl) (by exact fun _ _ _ h => h) (by rfl) ?_ hS ?_
    rotate_left
    · ((intro w hSw; (try dsimp only at hSw); go_simp) <;> with_reducible rfl)
    (try simp only [Act.put, List.setIfInBounds_toArray, List.set_cons_zero, List.set_cons_succ])
    refine any_take (i := 23) (v := ?_) rfl (by kernel_rfl) (by kernel_rfl) (by kernel_rfl) (by exact fun _ _ _ h => h) (by rfl) ?_ hS ?_
    rotate_left
    · ((intro w hSw; (try dsimp only at hSw); go_simp) <;> with_reducible rfl)
    (try simp only [Act.put, List.setIfInBounds_toArray, List.set_cons_zero, List.set_cons_succ])
    refine any_take (i := 24) (v := ?_) rfl (by kernel_rfl) (by kernel_rfl) (by kernel_rfl) (by exact fun _ _ _ h => h) (by rfl) ?_ hS ?_
    rotate_left
    · ((intro w hSw; (try dsimp only at hSw); go_simp) <;> with_reducible rfl)
    (try simp only [Act.put, List.setIfInBounds_toArray, List.set_cons_zero, List.set_cons_succ])
    refine any_take (i := 25) (v := ?_) rfl (by kernel_rfl) (by kernel_rfl) (by kernel_rfl) (by exact fun _ _ _ h => h) (by rfl) ?_ hS ?_
    rotate_left
    · ((intro w hSw; (try dsimp only at hSw); go_simp) <;> with_reducible rfl)
    (try simp only [Act.put, List.setIfInBounds_toArray, List.set_cons_zero, List.set_cons_succ])
    refine any_take (i := 26) (v := ?_) rfl (by kernel_rfl) (by kernel_rfl) (by kernel_rfl) (by exact fun _ _ _ h => h) (by rfl) ?_ hS ?_
    rotate_left
    · ((intro w hSw; (try dsimp only at hSw); go_simp) <;> with_reducible rfl)
    (try simp only [Act.put, List.setIfInBounds_toArray, List.set_cons_zero, List.set_cons_succ])
    have k5 := fun (X : World) (hX : Below x2.heap.size x2 X) => L0.out X (below_then B2 hX)
    refine any_take (i := 27) (v := ?_) rfl (by kernel_rfl) (by kernel_rfl) (by kernel_rfl) (by exact fun _ _ _ h => h) (by rfl) ?_ hS ?_
    rotate_left
    · ((intro w hSw; (try dsimp only at hSw); go_simp) <;> with_reducible rfl)
    (try simp only [Act.put, List.setIfInBounds_toArray, List.set_cons_zero, List.set_cons_succ])
    refine any_take (i := 29) (v := ?_) rfl (by kernel_rfl) (by kernel_rfl) (by kernel_rfl) (by exact fun _ _ _ h => h) (by rfl) ?_ hS ?_
    rotate_left
    · ((intro w hSw; (try dsimp only at hSw); go_simp) <;> with_reducible rfl)
    (try simp only [Act.put, List.setIfInBounds_toArray, List.set_cons_zero, List.set_cons_succ])
    refine any_take (i := 30) (v := ?_) rfl (by kernel_rfl) (by kernel_rfl) (by kernel_rfl) (by exact fun _ _ _ h => h) (by rfl) ?_ hS ?_
    rotate_left
    · ((intro w hSw; (try dsimp only at hSw); go_simp) <;> with_reducible rfl)
    (try simp only [Act.put, List.setIfInBounds_toArray, List.set_cons_zero, List.set_cons_succ])
    refine any_take (i := 31) (v := ?_) rfl (by kernel_rfl) (by kernel_rfl) (by kernel_rfl) (by exact fun _ _ _ h => h) (by rfl) ?_ hS ?_
    rotate_left
    · ((intro w hSw; (try dsimp only at hSw); go_simp) <;> with_reducible rfl)
    (try simp only [Act.put, List.setIfInBounds_toArray, List.set_cons_zero, List.set_cons_succ])
    refine any_take (i := 32) (v := ?_) rfl (by kernel_rfl) (by kernel_rfl) (by kernel_rfl) (by exact fun _ _ _ h => h) (by rfl) ?_ hS ?_
    rotate_left
    · ((intro w hSw; (try dsimp only at hSw); go_simp) <;> with_reducible rfl)
    (try simp only [Act.put, List.setIfInBounds_toArray, List.set_cons_zero, List.set_cons_succ])
    refine any_take (i := 33) (v := ?_) rfl (by kernel_rfl) (by kernel_rfl) (by kernel_rfl) (by exact fun _ _ _ h => h) (by rfl) ?_ hS ?_
    rotate_left
    · ((intro w hSw; (try dsimp only at hSw); go_simp) <;> with_reducible rfl)
    (try simp only [Act.put, List.setIfInBounds_toArray, List.set_cons_zero, List.set_cons_succ])
    clear k5
    have K3 : Hid _ := T3.out _ B2
    refine any_one (i := 28) rfl (by kernel_rfl) (fun K hK => ?_)
    go_simp
    refine (Calls.mono (K3.out)) ?_
    rintro e _ ⟨rfl, rfl⟩
    clear K3
    go_wp2_with fail
    refine hK.out _ _ hS ?_
    clear hK K
    refine any_take (i := 34) (v := ?_) rfl (by kernel_rfl) (by kernel_rfl) (by kernel_rfl) (by exact fun _ _ _ h => h) (by rfl) ?_ hS ?_
    rotate_left
    · ((intro w hSw; (try dsimp only at hSw); go_simp) <;> with_reducible rfl)
    (try simp only [Act.put, List.setIfInBounds_toArray, List.set_cons_zero, List.set_cons_succ])
    refine any_take (i := 35) (v := ?_) rfl (by kernel_rfl) (by kernel_rfl) (by kernel_rfl) (by exact fun _ _ _ h => h) (by rfl) ?_ hS ?_
    rotate_left
    · ((intro w hSw; (try dsimp only at hSw); go_simp) <;> with_reducible rfl)
    (try simp only [Act.put, List.setIfInBounds_toArray, List.set_cons_zero, List.set_cons_succ])
    refine any_take (i := 36) (v := ?_) rfl (by kernel_rfl) (by kernel_rfl) (by kernel_rfl) (by exact fun _ _ _ h => h) (by rfl) ?_ hS ?_
    rotate_left
    · ((intro w hSw; (try dsimp only at hSw); go_simp) <;> with_reducible rfl)
    (try simp only [Act.put, List.setIfInBounds_toArray, List.set_cons_zero, List.set_cons_succ])
    have k6 := fun (X : World) (hX : Below x2.heap.size x2 X) => L1.out X (below_then B2 hX)
    refine any_take (i := 37) (v := ?_) rfl (by kernel_rfl) (by kernel_rfl) (by kernel_rfl) (by exact fun _ _ _ h => h) (by rfl) ?_ hS ?_
    rotate_left
    · ((intro w hSw; (try dsimp only at hSw); go_simp) <;> with_reducible rfl)
    (try simp only [Act.put, List.setIfInBounds_toArray, List.set_cons_zero, List.set_cons_succ])
    refine any_take (i := 39) (v := ?_) rfl (by kernel_rfl) (by kernel_rfl) (by kernel_rfl) (by exact fun _ _ _ h => h) (by rfl) ?_ hS ?_
    rotate_left
    · ((intro w hSw; (try dsimp only at hSw); go_simp) <;> with_reducible rfl)
    (try simp only [Act.put, List.setIfInBounds_toArray, List.set_cons_zero, List.set_cons_succ])
    refine any_take (i := 40) (v := ?_) rfl (by kernel_rfl) (by kernel_rfl) (by kernel_rfl) (by exact fun _ _ _ h => h) (by rfl) ?_ hS ?_
    rotate_left
    · ((intro w hSw; (try dsimp only at hSw); go_simp) <;> with_reducible rfl)
    (try simp only [Act.put, List.setIfInBounds_toArray, List.set_cons_zero, List.set_cons_succ])
    refine any_take (i := 41) (v := ?_) rfl (by kernel_rfl) (by kernel_rfl) (by kernel_rfl) (by exact fun _ _ _ h => h) (by rfl) ?_ hS ?_
    rotate_left
    · ((intro w hSw; (try dsimp only at hSw); go_simp) <;> with_reducible rfl)
    (try simp only [Act.put, List.setIfInBounds_toArray, List.set_cons_zero, List.set_cons_succ])
    refine any_take (i := 42) (v := ?_) rfl (by kernel_rfl) (by kernel_rfl) (by kernel_rfl) (by exact fun _ _ _ h => h) (by rfl) ?_ hS ?_
    rotate_left
    · ((intro w hSw; (try dsimp only at hSw); go_simp) <;> with_reducible rfl)
    (try simp only [Act.put, List.setIfInBounds_toArray, List.set_cons_zero, List.set_cons_succ])
    refine any_take (i := 43) (v := ?_) rfl (by kernel_rfl) (by kernel_rfl) (by kernel_rfl) (by exact fun _ _ _ h => h) (by rfl) ?_ hS ?_
    rotate_left
    · ((intro w hSw; (try dsimp only at hSw); go_simp) <;> with_reducible rfl)
    (try simp only [Act.put, List.setIfInBounds_toArray, List.set_cons_zero, List.set_cons_succ])
    clear k6
    have K4 : Hid _ := T4.out _ B2
    refine any_one (i := 38) rfl (by kernel_rfl) (fun K hK => ?_)
    go_simp
    refine (Calls.mono (K4.out)) ?_
    rintro e _ ⟨rfl, rfl⟩
    clear K4
    go_wp2_with fail
    refine hK.out _ _ hS ?_
    clear hK K
    refine any_take (i := 44) (v := ?_) rfl (by kernel_rfl) (by kernel_rfl) (by kernel_rfl) (by exact fun _ _ _ h => h) (by rfl) ?_ hS ?_
    rotate_left
    · ((intro w hSw; (try dsimp only at hSw); go_simp) <;> with_reducible rfl)
    (try simp only [Act.put, List.setIfInBounds_toArray, List.set_cons_zero, List.set_cons_succ])
    refine any_take (i := 45) (v := ?_) rfl (by kernel_rfl) (by kernel_rfl) (by kernel_rfl) (by exact fun _ _ _ h => h) (by rfl) ?_ hS ?_
    rotate_left
    · ((intro w hSw; (try dsimp only at hSw); go_simp) <;> with_reducible rfl)
    (try simp only [Act.put, List.setIfInBounds_toArray, List.set_cons_zero, List.set_cons_succ])
    refine any_take (i := 46) (v := ?_) rfl (by kernel_rfl) (by kernel_rfl) (by kernel_rfl) (by exact fun _ _ _ h => h) (by rfl) ?_ hS ?_
    rotate_left
    · ((intro w hSw; (try dsimp only at hSw); go_simp) <;> with_reducible rfl)
    (try simp only [Act.put, List.setIfInBounds_toArray, List.set_cons_zero, List.set_cons_succ])
    have k7 := fun (X : World) (hX : Below x2.heap.size x2 X) => L3.out X (below_then B2 hX)
    refine any_take (i := 47) (v := ?_) rfl (by kernel_rfl) (by kernel_rfl) (by kernel_rfl) (by exact fun _ _ _ h => h) (by rfl) ?_ hS ?_
    rotate_left
    · ((intro w hSw; (try dsimp only at hSw); go_simp) <;> with_reducible rfl)
    (try simp only [Act.put, List.setIfInBounds_toArray, List.set_cons_zero, List.set_cons_succ])
    refine any_take (i := 49) (v := ?_) rfl (by kernel_rfl) (by kernel_rfl) (by kernel_rfl) (by exact fun _ _ _ h => h) (by rfl) ?_ hS ?_
    rotate_left
    · ((intro w hSw; (try dsimp only at hSw); go_simp) <;> with_reducible rfl)
    (try simp only [Act.put, List.setIfInBounds_toArray, List.set_cons_zero, List.set_cons_succ])
    refine any_take (i := 50) (v := ?_) rfl (by kernel_rfl) (by kernel_rfl) (by kernel_rfl) (by exact fun _ _ _ h => h) (by rfl) ?_ hS ?_
    rotate_left
    · ((intro w hSw; (try dsimp only at hSw); go_simp) <;> with_reducible rfl)
    (try simp only [Act.put, List.setIfInBounds_toArray, List.set_cons_zero, List.set_cons_succ])
    refine any_take (i := 51) (v := ?_) rfl (by kernel_rfl) (by kernel_rfl) (by kernel_rfl) (by exact fun _ _ _ h => h) (by rfl) ?_ hS ?_
    rotate_left
    · ((intro w hSw; (try dsimp only at hSw); go_simp) <;> with_reducible rfl)
    (try simp only [Act.put, List.setIfInBounds_toArray, List.set_cons_zero, List.set_cons_succ])
    refine any_take (i := 52) (v := ?_) rfl (by kernel_rfl) (by kernel_rfl) (by kernel_rfl) (by exact fun _ _ _ h => h) (by rfl) ?_ hS ?_
    rotate_left
    · ((intro w hSw; (try dsimp only at hSw); go_simp) <;> with_reducible rfl)
    (try simp only [Act.put, List.setIfInBounds_toArray, List.set_cons_zero, List.set_cons_succ])
    clear k7
    have K5 : Hid _ := T5.out _ B2
    refine any_one (i := 48) rfl (by kernel_rfl) (fun K hK => ?_)
    go_simp
    refine (Calls.mono (K5.out)) ?_
    rintro e x5 ⟨rfl, hbR⟩
    have B5 : Below w4.heap.size w4 x5 := below_then B2 hbR
    clear K5
    go_wp2_with fail
    refine hK.out _ _ (by first | exact B5 | exact hbR | exact below_then hS hbR) (any_weaken (S' := fun W => Below x5.heap.size x5 W) (fun W hW => by first | exact below_then B5 hW | exact below_then hbR hW | exact below_then (below_then hS hbR) hW) _ _ _ _ ?_)
    clear hK K hS hbR
    have hS : Below x5.heap.size x5 x5 := Below.refl _ _
    refine any_take (i := 53) (v := ?_) rfl (by kernel_rfl) (by kernel_rfl) (by kernel_rfl) (by exact fun _ _ _ h => h) (by rfl) ?_ hS ?_
    rotate_left
    · ((intro w hSw; (try dsimp only at hSw); go_simp) <;> with_reducible rfl)
    (try simp only [Act.put, List.setIfInBounds_toArray, List.set_cons_zero, List.set_cons_succ])
    refine any_take (i := 54) (v := ?_) rfl (by kernel_rfl) (by kernel_rfl) (by kernel_rfl) (by exact fun _ _ _ h => h) (by rfl) ?_ hS ?_
    rotate_left
    · ((intro w hSw; (try dsimp only at hSw); go_simp) <;> with_reducible rfl)
    (try simp only [Act.put, List.setIfInBounds_toArray, List.set_cons_zero, List.set_cons_succ])
    refine wpAnyH_done (by kernel_rfl) ?_ _
    go_wp2_with fail
    go_meet
    exact ⟨rfl, B5⟩
  case rest =>
  obtain ⟨rfl, b5⟩ := hcut
  have hl1 : Hid _ := And.intro H.out.2.2.len (And.intro H.out.2.2.now (rdL_len H.out.2.2 at' n))
  obtain ⟨o1, b1⟩ := O1.out
  obtain ⟨o2, b2, B2⟩ := O2.out
  obtain ⟨o3, b3, B3⟩ := O3.out
  obtain ⟨b4, B4⟩ := O4.out
  have p1 := o1.later (below_then b2 (below_then b3 (below_then b4 b5)))
  have p2 := o2.later (below_then b3 (below_then b4 b5))
  have p3 := o3.later (below_then b4 b5)
  have n1 := World.ownsRow.lt o1
  have n2 := World.ownsRow.lt o2
  have n3 := World.ownsRow.lt o3
  have HS1 : Hid _ := Spoil_own _ _ _ wc p1 (by have := hl1.out.1; omega)
  have HP : Hid _ := And.intro p2 (And.intro p3 (And.intro (below_then B4 b5) (And.intro n1 (And.intro n2 (And.intro n3 (And.intro b1.size (And.intro b2.size b3.size)))))))
  clear o1 b1 o2 b2 B2 o3 b3 B3 b4 B4 p1 p2 p3 n1 n2 n3 b5 O1 O2 O3 O4 S1 S2 S3 S4 H HC
  go_wp2_with fail
  refine (Calls.mono HS1.out) ?_
  rintro e y1 ⟨rfl, hg1⟩
  obtain ⟨p2, p3, bb, n1, n2, n3, z1, z2, z3⟩ := HP.out
  have m2 := p2.kept hg1 (by
    cases h2 : (Value.slice a2 l2 d2).ownBlock with
    | none => exact .inl rfl
    | some k => refine .inr (fun e => ?_); have := (n2 k h2).1; have := (n1 k e.symm).2; omega)
  have m3 := p3.kept hg1 (by
    cases h3 : (Value.slice a3 l3 d3).ownBlock with
    | none => exact .inl rfl
    | some k => refine .inr (fun e => ?_); have := (n3 k h3).1; have := (n1 k e.symm).2; omega)
  have bb1 := bb.grown hg1 bb.size (fun k hk => (n1 k hk).1)
  have HS2 : Hid _ := Spoil_own _ _ _ y1 m2 (by have := hl1.out.1; have := hl1.out.2.1; omega)
  have HP2 : Hid _ := And.intro m3 (And.intro bb1 (And.intro n2 (And.intro n3 (And.intro z1 (And.intro z2 z3)))))
  clear p2 p3 bb n1 n2 n3 z1 z2 z3 m2 m3 bb1 hg1 HP HS1
  go_wp2_with fail
  refine (Calls.mono HS2.out) ?_
  rintro e y2 ⟨rfl, hg2⟩
  obtain ⟨m3, bb1, n2, n3, z1, z2, z3⟩ := HP2.out
  have m3' := m3.kept hg2 (by
    cases h3 : (Value.slice a3 l3 d3).ownBlock with
    | none => exact .inl rfl
    | some k => refine .inr (fun e => ?_); have := (n3 k h3).1; have := (n2 k e.symm).2; omega)
  have bb2 := bb1.grown hg2 bb1.size (fun k hk => Nat.le_trans z1 (n2 k hk).1)
  have HS3 : Hid _ := Spoil_own _ _ _ y2 m3' (by have := hl1.out.2.2; omega)
  have HP3 : Hid _ := And.intro bb2 (fun k (hk : (Value.slice a3 l3 d3).ownBlock = some k) => Nat.le_trans (Nat.le_trans z1 z2) (n3 k hk).1)
  clear m3 bb1 n2 n3 z1 z2 z3 m3' bb2 hg2 HP2 HS2
  go_wp2_with fail
  refine (Calls.mono HS3.out) ?_
  rintro e y3 ⟨rfl, hg3⟩
  have F : Hid _ := HP3.out.1.grown hg3 HP3.out.1.size HP3.out.2
  clear hg3 HP3 HS3
  go_wp2
  go_ret
  exact ⟨rfl, F.out⟩
end Go.Proofs.Ytmhnlfgakpelkaa
