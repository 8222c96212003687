/- extent: alike. -/
import Derived.Test.YtmkacgdbmojomaaXLe2
import Derived.Test.YtmkacgdbmojomaaXEx6
import Derived.Test.YtmkacgdbmojomaaXAid
namespace Go.Proofs.Ytmkacgdbmojomaa
open Go.RowKit
set_option linter.unusedVariables false
set_option linter.unusedSimpArgs false
set_option maxRecDepth 8000

theorem imRead_rd (g b : Nat) (m : Im) (a k : Int) (w : World) (h : (im g b m).Ok w) (hw : m.Wf) (ha : I64 a) (hk : I64 k) : Calls Try.prog 30 #[.pointer (some ⟨g, 0, none⟩), .int .i64 a, .int .i64 k] w fun e w' => RdR (spansB m.n a k) (rdN m a.toNat k.toNat) w e w' := by
  cases hs : spansB m.n a k with
  | false =>
    refine (imRead_no g b m a k w h hw ha hk hs).mono ?_
    rintro e w' ⟨rfl, rfl⟩
    exact ⟨_, rfl, Own.nil _ _, Below.refl _ _⟩
  | true =>
    obtain ⟨x, y, rfl, rfl, hxy⟩ := spansB_yes hs
    refine (imRead_yes g b m x y w h hw hxy).mono ?_
    rintro e w' ⟨v, rfl, ho, hb⟩
    exact ⟨v, rfl, ho, hb⟩
def StrR (l : List (BitVec 8)) (w : World) (e : Ending) (w' : World) : Prop := ∃ a n c, e = .returned (.slice a n c) ∧ (∀ X, Below w'.heap.size w' X → (convert 31 9 (.slice a n c)).run Try.prog X = .ok (.string (str l)) X) ∧ True ∧ Below w.heap.size w w'
theorem riBytes_str (r lb : Nat) (V : List Nat) (m : Im) (w : World) (h : (ri r lb V m).Ok w) (hw : m.Wf) : Calls Try.prog 49 #[.pointer (some ⟨r, 0, none⟩)] w fun e w' => StrR (bytesM m) w e w' := by
  refine (riBytes_any r lb V m w h hw).mono ?_
  rintro e w' ⟨v, rfl, ho, hb⟩
  obtain ⟨a, c, rfl, -, -, hr, -⟩ := ho.open
  exact ⟨a, _, c, rfl, str_conv hr, trivial, hb⟩
theorem bytesM_le {m : Im} (h : m.Wf) : (bytesM m).length ≤ 20000 := by
  have h2 := h.most
  have hl := m.used_le
  have e : (bytesM m).length = 4 + (expand (rnN m m.n)).length * 66 := by
    unfold bytesM headE
    rw [List.length_append, encAll_len h, List.length_append, be_length _ _ (by omega), be_length _ _ (by omega)]
  have e2 : (expand (rnN m m.n)).length = m.used := by rw [expand_rn]; exact has_used m
  omega
def NsQ (w : World) (l : List (Nat × Nat)) (e : Ending) (w' : World) : Prop := ∃ a c T, e = .returned (.slice a l.length c) ∧ T.map (·.1) = l ∧ NsOwn w' w.heap.size (.slice a l.length c) T ∧ Below w.heap.size w w'
theorem NsR.q {w w' : World} {l : List (Nat × Nat)} {e : Ending} (h : ∃ v, e = .returned v ∧ NsR w l v w') : NsQ w l e w' := by
  obtain ⟨v, rfl, T, hT, hO, hb⟩ := h
  obtain ⟨a, c, rfl, -⟩ := ns_at hO hT
  exact ⟨a, c, T, rfl, hT, hO, hb⟩
theorem lawruns_q (g b : Nat) (m : Im) (w : World) (h : (im g b m).Ok w) (hw : m.Wf) : Calls Try.prog 51 #[.pointer (some ⟨g, 0, none⟩)] w fun e w' => NsQ w (rnN m m.n) e w' := (lawruns_any g b m w h hw).mono fun e w' h => NsR.q h
theorem riRuns_q (r lb : Nat) (V : List Nat) (m : Im) (w : World) (h : (ri r lb V m).Ok w) (hw : m.Wf) : Calls Try.prog 52 #[.pointer (some ⟨r, 0, none⟩)] w fun e w' => NsQ w (rnN m m.n) e w' := (riRuns_any r lb V m w h hw).mono fun e w' h => NsR.q h
set_option maxHeartbeats 16000000 in
theorem alike_any (g b r lb : Nat) (V : List Nat) (m : Im) (lba n : Int) (w : World) (h1 : (im g b m).Ok w) (h2 : (ri r lb V m).Ok w) (hw : m.Wf) (ha : I64 lba) (hn : I64 n) :
    Calls Try.prog 15 #[.pointer (some ⟨g, 0, none⟩), .pointer (some ⟨r, 0, none⟩), .int .i64 lba, .int .i64 n] w fun e w' => e = .returned (.bool true) ∧ Below w.heap.size w w' := by
  have HP : Hid _ := And.intro h1 (And.intro h2 (And.intro hw (And.intro ha hn)))
  have HR1 : Hid _ := imRead_rd g b m lba n w h1 hw ha hn
  have HR2 : Hid _ := fun w2 (hb : Below w.heap.size w w2) => riRead_any r lb V m lba n w2 (h2.later hb) hw ha hn
  have hrl : (rdN m lba.toNat n.toNat).length ≤ 20000000000 ∨ spansB m.n lba n = false := by
    cases hs : spansB m.n lba n with
    | false => exact .inr rfl
    | true => obtain ⟨x, y, rfl, rfl, hxy⟩ := spansB_yes hs; rw [rdN_len hw]; have := hw.most; rw [Int.toNat_natCast]; exact .inl (by omega)
  have hLl : (if spansB m.n lba n then rdN m lba.toNat n.toNat else []).length ≤ 140737488351232 := by
    rcases hrl with h | h
    · split
      · omega
      · simp
    · rw [h]; simp
  have HLl : Hid _ := And.intro hLl (And.intro (bytesM_le hw) (Nat.le_trans (rn_len m m.n) hw.most))
  clear h1 h2 hw ha hn hrl hLl
  unfold RdR at HR1 HR2
  generalize (if spansB m.n lba n then rdN m lba.toNat n.toNat else []) = L at *
  generalize (if spansB m.n lba n then (0 : Int) else 1) = E at *
  go_enter Try.func15, Try.ntmps15
  go_wp2_with fail
  refine (Calls.mono HR1.out) ?_
  rintro e w1 ⟨v1, rfl, ho1, b1⟩
  clear HR1
  go_wp2_with fail
  refine (Calls.mono (HR2.out w1 b1)) ?_
  rintro e w2 ⟨v2, rfl, ho2, b2⟩
  clear HR2
  have H2 : Hid _ := And.intro (ho1.later b2) (And.intro ho2 (below_then b1 b2))
  clear ho1 ho2 b1 b2
  go_wp2_with fail
  refine (Calls.mono (imBytes_any g b m w2 (HP.out.1.later H2.out.2.2) HP.out.2.2.1)) ?_
  rintro e w3 ⟨v3, rfl, ho3, b3⟩
  have HLo : Hid _ := fun q hq => (World.ownsRow.lt H2.out.1 q hq)
  have H3 : Hid _ := And.intro (H2.out.1.later b3) (And.intro (H2.out.2.1.later b3) (And.intro ho3 (And.intro (below_then H2.out.2.2 b3) H2.out.2.2.size)))
  clear ho3 b3 H2
  obtain ⟨xa, ca, rfl, -, -, ra, -⟩ := H3.out.1.open
  obtain ⟨xb, cb, rfl, -, -, rb, -⟩ := H3.out.2.1.open
  obtain ⟨xp, cp, rfl, -, -, rp, -⟩ := H3.out.2.2.1.open
  have hcA := str_conv (c := ca) ra
  have hcB := str_conv (c := cb) rb
  have HcP : Hid _ := str_conv (c := cp) rp
  clear ra rb rp
  have Sd : Below w3.heap.size w3 w3.drew := (Below.refl _ _).drew
  have HO : Hid _ := And.intro (HP.out.1.later H3.out.2.2.2.1) (And.intro (HP.out.2.1.later H3.out.2.2.2.1) (And.intro HP.out.2.2.1 HP.out.2.2.2.1))
  generalize hnL : L.length = nL at *
  generalize hnB : (bytesM m).length = nB at *
  have HNL : Hid _ := And.intro hnL hnB
  clear hnL hnB
  generalize hsL : str L = sL at *
  generalize hsB : str (bytesM m) = sB at *
  go_wp2_with fail
  refine wp_region_held_drew (S := fun W => Below w3.heap.size w3 W) (by kernel_rfl) Sd (fun hS => ?_)
  have B0 : Below w3.heap.size w3 w3.drew := Sd
  refine any_take (i := 0) (v := ?_) rfl (by kernel_rfl) (by kernel_rfl) (by kernel_rfl) (by exact fun _ _ _ h => h) (by rfl) ?_ hS ?_
  rotate_left
  · ((intro w hSw; (try dsimp only at hSw); go_simp) <;> with_reducible rfl)
  (try simp only [Act.put, List.setIfInBounds_toArray, List.set_cons_zero, List.set_cons_succ])
  refine any_take (i := 1) (v := ?_) rfl (by kernel_rfl) (by kernel_rfl) (by kernel_rfl) (by exact fun _ _ _ h => h) (by rfl) ?_ hS ?_
  rotate_left
  · ((intro w hSw; (try dsimp only at hSw); go_simp) <;> with_reducible rfl)
  (try simp only [Act.put, List.setIfInBounds_toArray, List.set_cons_zero, List.set_cons_succ])
  refine any_take (i := 2) (v := ?_) rfl (by kernel_rfl) (by kernel_rfl) (by kernel_rfl) (by exact fun _ _ _ h => h) (by rfl) ?_ hS ?_
  rotate_left
  · ((intro w hSw; (try dsimp only at hSw); go_simp) <;> with_reducible rfl)
  (try simp only [Act.put, List.setIfInBounds_toArray, List.set_cons_zero, List.set_cons_succ])
  refine any_take (i := 3) (v := ?_) rfl (by kernel_rfl) (by kernel_rfl) (by kernel_rfl) (by exact fun _ _ _ h => h) (by rfl) ?_ hS ?_
  rotate_left
  · ((intro w hSw; (try dsimp only at hSw); go_simp) <;> with_reducible rfl)
  (try simp only [Act.put, List.setIfInBounds_toArray, List.set_cons_zero, List.set_cons_succ])
  refine any_take (i := 4) (v := ?_) rfl (by kernel_rfl) (by kernel_rfl) (by kernel_rfl) (by exact fun _ _ _ h => h) (by rfl) ?_ hS ?_
  rotate_left
  · ((intro w hSw; (try dsimp only at hSw); go_simp) <;> with_reducible rfl)
  (try simp only [Act.put, List.setIfInBounds_toArray, List.set_cons_zero, List.set_cons_succ])
  refine any_take (i := 5) (v := ?_) rfl (by kernel_rfl) (by kernel_rfl) (by kernel_rfl) (by exact fun _ _ _ h => h) (by rfl) ?_ hS ?_
  rotate_left
  · ((intro w hSw; (try dsimp only at hSw); go_simp) <;> with_reducible rfl)
  (try simp only [Act.put, List.setIfInBounds_toArray, List.set_cons_zero, List.set_cons_succ])
  refine any_take (i := 6) (v := ?_) rfl (by kernel_rfl) (by kernel_rfl) (by kernel_rfl) (by exact fun _ _ _ h => h) (by rfl) ?_ hS ?_
  rotate_left
  · ((intro w hSw; (try dsimp only at hSw); go_simp) <;> with_reducible rfl)
  (try simp only [Act.put, List.setIfInBounds_toArray, List.set_cons_zero, List.set_cons_succ])
  refine any_take (i := 7) (v := ?_) rfl (by kernel_rfl) (by kernel_rfl) (by kernel_rfl) (by exact fun _ _ _ h => h) (by rfl) ?_ hS ?_
  rotate_left
  · ((intro w hSw; (try dsimp only at hSw); go_simp) <;> with_reducible rfl)
  (try simp only [Act.put, List.setIfInBounds_toArray, List.set_cons_zero, List.set_cons_succ])
  refine any_take (i := 8) (v := ?_) rfl (by kernel_rfl) (by kernel_rfl) (by kernel_rfl) (by exact fun _ _ _ h => h) (by rfl) ?_ hS ?_
  rotate_left
  · ((intro w hSw; (try dsimp only at hSw); go_simp) <;> with_reducible rfl)
  (try simp only [Act.put, List.setIfInBounds_toArray, List.set_cons_zero, List.set_cons_succ])
  refine any_take (i := 9) (v := ?_) rfl (by kernel_rfl) (by kernel_rfl) (by kernel_rfl) (by exact fun _ _ _ h => h) (by rfl) ?_ hS ?_
  rotate_left
  · ((intro w hSw; (try dsimp only at hSw); go_simp) <;> with_reducible rfl)
  (try simp only [Act.put, List.setIfInBounds_toArray, List.set_cons_zero, List.set_cons_succ])
  refine any_take (i := 10) (v := ?_) rfl (by kernel_rfl) (by kernel_rfl) (by kernel_rfl) (by exact fun _ _ _ h => h) (by rfl) ?_ hS ?_
  rotate_left
  · ((intro w hSw; (try dsimp only at hSw); go_simp) <;> with_reducible rfl)
  (try simp only [Act.put, List.setIfInBounds_toArray, List.set_cons_zero, List.set_cons_succ])
  refine any_take (i := 11) (v := ?_) rfl (by kernel_rfl) (by kernel_rfl) (by kernel_rfl) (by exact fun _ _ _ h => h) (by rfl) ?_ hS ?_
  rotate_left
  · ((intro w hSw; (try dsimp only at hSw); go_simp) <;> with_reducible rfl)
  (try simp only [Act.put, List.setIfInBounds_toArray, List.set_cons_zero, List.set_cons_succ])
  refine any_take (i := 13) (v := ?_) rfl (by kernel_rfl) (by kernel_rfl) (by kernel_rfl) (by exact fun _ _ _ h => h) (by rfl) ?_ hS ?_
  rotate_left
  · ((intro w hSw; (try dsimp only at hSw); go_simp) <;> with_reducible rfl)
  (try simp only [Act.put, List.setIfInBounds_toArray, List.set_cons_zero, List.set_cons_succ])
  refine any_take (i := 14) (v := ?_) rfl (by kernel_rfl) (by kernel_rfl) (by kernel_rfl) (by exact fun _ _ _ h => h) (by rfl) ?_ hS ?_
  rotate_left
  · ((intro w hSw; (try dsimp only at hSw); go_simp) <;> with_reducible rfl)
  (try simp only [Act.put, List.setIfInBounds_toArray, List.set_cons_zero, List.set_cons_succ])
  refine any_take (i := 15) (v := ?_) rfl (by kernel_rfl) (by kernel_rfl) (by kernel_rfl) (by exact fun _ _ _ h => h) (by rfl) ?_ hS ?_
  rotate_left
  · ((intro w hSw; (try dsimp only at hSw); go_simp) <;> with_reducible rfl)
  (try simp only [Act.put, List.setIfInBounds_toArray, List.set_cons_zero, List.set_cons_succ])
  refine any_take (i := 16) (v := .slice (some ⟨lb, 0, none⟩) m.n m.n) rfl (by kernel_rfl) (by kernel_rfl) (by kernel_rfl) (by exact fun _ _ _ h => h) (by rfl) ?_ hS ?_
  · intro W hSW; have c := ri_head (HO.out.2.1.later hSW); go_simp
  (try simp only [Act.put, List.setIfInBounds_toArray, List.set_cons_zero, List.set_cons_succ])
  refine any_take (i := 17) (v := ?_) rfl (by kernel_rfl) (by kernel_rfl) (by kernel_rfl) (by exact fun _ _ _ h => h) (by rfl) ?_ hS ?_
  rotate_left
  · ((intro w hSw; (try dsimp only at hSw); go_simp) <;> with_reducible rfl)
  (try simp only [Act.put, List.setIfInBounds_toArray, List.set_cons_zero, List.set_cons_succ])
  have K1 : Hid _ := imSize_any g b m _ (HO.out.1.later B0)
  refine any_one (i := 12) rfl (by kernel_rfl) (fun K hK => ?_)
  go_simp
  refine (Calls.mono (K1.out)) ?_
  rintro e _ ⟨rfl, rfl⟩
  clear K1
  go_wp2_with fail
  refine hK.out _ _ hS ?_
  clear hK K
  refine any_take (i := 18) (v := ?_) rfl (by kernel_rfl) (by kernel_rfl) (by kernel_rfl) (by exact fun _ _ _ h => h) (by rfl) ?_ hS ?_
  rotate_left
  · ((intro w hSw; (try dsimp only at hSw); go_simp) <;> with_reducible rfl)
  (try simp only [Act.put, List.setIfInBounds_toArray, List.set_cons_zero, List.set_cons_succ])
  refine any_take (i := 19) (v := ?_) rfl (by kernel_rfl) (by kernel_rfl) (by kernel_rfl) (by exact fun _ _ _ h => h) (by rfl) ?_ hS ?_
  rotate_left
  · ((intro w hSw; (try dsimp only at hSw); go_simp) <;> with_reducible rfl)
  (try simp only [Act.put, List.setIfInBounds_toArray, List.set_cons_zero, List.set_cons_succ])
  refine any_take (i := 20) (v := ?_) rfl (by kernel_rfl) (by kernel_rfl) (by kernel_rfl) (by exact fun _ _ _ h => h) (by rfl) ?_ hS ?_
  rotate_left
  · ((intro w hSw; (try dsimp only at hSw); go_simp) <;> with_reducible rfl)
  (try simp only [Act.put, List.setIfInBounds_toArray, List.set_cons_zero, List.set_cons_succ])
  refine any_take (i := 21) (v := ?_) rfl (by kernel_rfl) (by kernel_rfl) (by kernel_rfl) (by exact fun _ _ _ h => h) (by rfl) ?_ hS ?_
  rotate_left
  · ((intro w hSw; (try dsimp only at hSw); go_simp) <;> with_reducible rfl)
  (try simp only [Act.put, List.setIfInBounds_toArray, List.set_cons_zero, List.set_cons_succ])
  refine any_take (i := 23) (v := ?_) rfl (by kernel_rfl) (by kernel_rfl) (by kernel_rfl) (by exact fun _ _ _ h => h) (by rfl) ?_ hS ?_
  rotate_left
  · ((intro w hSw; (try dsimp only at hSw); go_simp) <;> with_reducible rfl)
  (try simp only [Act.put, List.setIfInBounds_toArray, List.set_cons_zero, List.set_cons_succ])
  have K2 : Hid _ := imUsed_any g b m _ (HO.out.1.later B0) HO.out.2.2.1
  refine any_one (i := 22) rfl (by kernel_rfl) (fun K hK => ?_)
  go_simp
  refine (Calls.mono (K2.out)) ?_
  rintro e _ ⟨rfl, rfl⟩
  clear K2
  go_wp2_with fail
  refine hK.out _ _ hS ?_
  clear hK K
  have K3 : Hid _ := riUsed_any r lb V m _ (HO.out.2.1.later B0) HO.out.2.2.1
  refine any_one (i := 24) rfl (by kernel_rfl) (fun K hK => ?_)
  go_simp
  refine (Calls.mono (K3.out)) ?_
  rintro e _ ⟨rfl, rfl⟩
  clear K3
  go_wp2_with fail
  refine hK.out _ _ hS ?_
  clear hK K
  refine any_take (i := 25) (v := ?_) rfl (by kernel_rfl) (by kernel_rfl) (by kernel_rfl) (by exact fun _ _ _ h => h) (by rfl) ?_ hS ?_
  rotate_left
  · ((intro w hSw; (try dsimp only at hSw); go_simp) <;> with_reducible rfl)
  (try simp only [Act.put, List.setIfInBounds_toArray, List.set_cons_zero, List.set_cons_succ])
  refine any_take (i := 26) (v := ?_) rfl (by kernel_rfl) (by kernel_rfl) (by kernel_rfl) (by exact fun _ _ _ h => h) (by rfl) ?_ hS ?_
  rotate_left
  · ((intro w hSw; (try dsimp only at hSw); go_simp) <;> with_reducible rfl)
  (try simp only [Act.put, List.setIfInBounds_toArray, List.set_cons_zero, List.set_cons_succ])
  refine any_take (i := 27) (v := ?_) rfl (by kernel_rfl) (by kernel_rfl) (by kernel_rfl) (by exact fun _ _ _ h => h) (by rfl) ?_ hS ?_
  rotate_left
  · ((intro w hSw; (try dsimp only at hSw); go_simp) <;> with_reducible rfl)
  (try simp only [Act.put, List.setIfInBounds_toArray, List.set_cons_zero, List.set_cons_succ])
  refine any_take (i := 28) (v := ?_) rfl (by kernel_rfl) (by kernel_rfl) (by kernel_rfl) (by exact fun _ _ _ h => h) (by rfl) ?_ hS ?_
  rotate_left
  · ((intro w hSw; (try dsimp only at hSw); go_simp) <;> with_reducible rfl)
  (try simp only [Act.put, List.setIfInBounds_toArray, List.set_cons_zero, List.set_cons_succ])
  refine any_take (i := 29) (v := ?_) rfl (by kernel_rfl) (by kernel_rfl) (by kernel_rfl) (by exact fun _ _ _ h => h) (by rfl) ?_ hS ?_
  rotate_left
  · ((intro w hSw; (try dsimp only at hSw); go_simp) <;> with_reducible rfl)
  (try simp only [Act.put, List.setIfInBounds_toArray, List.set_cons_zero, List.set_cons_succ])
  refine any_take (i := 31) (v := ?_) rfl (by kernel_rfl) (by kernel_rfl) (by kernel_rfl) (by exact fun _ _ _ h => h) (by rfl) ?_ hS ?_
  rotate_left
  · ((intro w hSw; (try dsimp only at hSw); go_simp) <;> with_reducible rfl)
  (try simp only [Act.put, List.setIfInBounds_toArray, List.set_cons_zero, List.set_cons_succ])
  refine any_take (i := 32) (v := ?_) rfl (by kernel_rfl) (by kernel_rfl) (by kernel_rfl) (by exact fun _ _ _ h => h) (by rfl) ?_ hS ?_
  rotate_left
  · ((intro w hSw; (try dsimp only at hSw); go_simp) <;> with_reducible rfl)
  (try simp only [Act.put, List.setIfInBounds_toArray, List.set_cons_zero, List.set_cons_succ])
  have K4 : Hid _ := imHas_any g b m lba _ (HO.out.1.later B0) HO.out.2.2.1 HO.out.2.2.2
  refine any_one (i := 30) rfl (by kernel_rfl) (fun K hK => ?_)
  go_simp
  refine (Calls.mono (K4.out)) ?_
  rintro e x4 ⟨rfl, hbR⟩
  have B4 : Below w3.heap.size w3 x4 := below_then B0 hbR
  clear K4
  go_wp2_with fail
  refine hK.out _ _ (by first | exact B4 | exact hbR | exact below_then hS hbR) (any_weaken (S' := fun W => Below x4.heap.size x4 W) (fun W hW => by first | exact below_then B4 hW | exact below_then hbR hW | exact below_then (below_then hS hbR) hW) _ _ _ _ ?_)
  clear hK K hS hbR
  have hS : Below x4.heap.size x4 x4 := Below.refl _ _
  have K5 : Hid _ := riHas_any r lb V m lba _ (HO.out.2.1.later B4) HO.out.2.2.1 HO.out.2.2.2
  refine any_one (i := 33) rfl (by kernel_rfl) (fun K hK => ?_)
  go_simp
  refine (Calls.mono (K5.out)) ?_
  rintro e _ ⟨rfl, rfl⟩
  clear K5
  go_wp2_with fail
  refine hK.out _ _ hS ?_
  clear hK K
  refine any_take (i := 34) (v := ?_) rfl (by kernel_rfl) (by kernel_rfl) (by kernel_rfl) (by exact fun _ _ _ h => h) (by rfl) ?_ hS ?_
  rotate_left
  · ((intro w hSw; (try dsimp only at hSw); go_simp) <;> with_reducible rfl)
  (try simp only [Act.put, List.setIfInBounds_toArray, List.set_cons_zero, List.set_cons_succ])
  refine any_take (i := 35) (v := ?_) rfl (by kernel_rfl) (by kernel_rfl) (by kernel_rfl) (by exact fun _ _ _ h => h) (by rfl) ?_ hS ?_
  rotate_left
  · ((intro w hSw; (try dsimp only at hSw); go_simp) <;> with_reducible rfl)
  (try simp only [Act.put, List.setIfInBounds_toArray, List.set_cons_zero, List.set_cons_succ])
  refine any_take (i := 36) (v := ?_) rfl (by kernel_rfl) (by kernel_rfl) (by kernel_rfl) (by exact fun _ _ _ h => h) (by rfl) ?_ hS ?_
  rotate_left
  · ((intro w hSw; (try dsimp only at hSw); go_simp) <;> with_reducible rfl)
  (try simp only [Act.put, List.setIfInBounds_toArray, List.set_cons_zero, List.set_cons_succ])
  refine any_take (i := 37) (v := ?_) rfl (by kernel_rfl) (by kernel_rfl) (by kernel_rfl) (by exact fun _ _ _ h => h) (by rfl) ?_ hS ?_
  rotate_left
  · ((intro w hSw; (try dsimp only at hSw); go_simp) <;> with_reducible rfl)
  (try simp only [Act.put, List.setIfInBounds_toArray, List.set_cons_zero, List.set_cons_succ])
  refine any_take (i := 38) (v := .string sB) rfl (by kernel_rfl) (by kernel_rfl) (by kernel_rfl) (by exact fun _ _ _ h => h) (by rfl) ?_ hS ?_
  · intro W hSW; have c := HcP.out W (below_then B4 hSW); go_simp
  (try simp only [Act.put, List.setIfInBounds_toArray, List.set_cons_zero, List.set_cons_succ])
  refine any_take (i := 39) (v := ?_) rfl (by kernel_rfl) (by kernel_rfl) (by kernel_rfl) (by exact fun _ _ _ h => h) (by rfl) ?_ hS ?_
  rotate_left
  · ((intro w hSw; (try dsimp only at hSw); go_simp) <;> with_reducible rfl)
  (try simp only [Act.put, List.setIfInBounds_toArray, List.set_cons_zero, List.set_cons_succ])
  have K6 : Hid _ := riBytes_str r lb V m _ (HO.out.2.1.later B4) HO.out.2.2.1
  refine any_one (i := 40) rfl (by kernel_rfl) (fun K hK => ?_)
  go_simp
  refine (Calls.mono (K6.out)) ?_
  rintro e x6 ⟨xq6, lq6, cq6, rfl, hcq6, -, hbR⟩
  have B6 : Below w3.heap.size w3 x6 := below_then B4 hbR
  clear K6
  go_wp2_with fail
  refine hK.out _ _ (by first | exact B6 | exact hbR | exact below_then hS hbR) (any_weaken (S' := fun W => Below x6.heap.size x6 W) (fun W hW => by first | exact below_then B6 hW | exact below_then hbR hW | exact below_then (below_then hS hbR) hW) _ _ _ _ ?_)
  clear hK K hS hbR
  have hS : Below x6.heap.size x6 x6 := Below.refl _ _
  rw [hsB] at hcq6
  refine any_take (i := 41) (v := ?_) rfl (by kernel_rfl) (by kernel_rfl) (by kernel_rfl) (by exact fun _ _ _ h => h) (by rfl) ?_ hS ?_
  rotate_left
  · ((intro w hSw; (try dsimp only at hSw); go_simp) <;> with_reducible rfl)
  (try simp only [Act.put, List.setIfInBounds_toArray, List.set_cons_zero, List.set_cons_succ])
  refine any_take (i := 42) (v := ?_) rfl (by kernel_rfl) (by kernel_rfl) (by kernel_rfl) (by exact fun _ _ _ h => h) (by rfl) ?_ hS ?_
  rotate_left
  · ((intro w hSw; (try dsimp only at hSw); go_simp) <;> with_reducible rfl)
  (try simp only [Act.put, List.setIfInBounds_toArray, List.set_cons_zero, List.set_cons_succ])
  refine any_take (i := 43) (v := ?_) rfl (by kernel_rfl) (by kernel_rfl) (by kernel_rfl) (by exact fun _ _ _ h => h) (by rfl) ?_ hS ?_
  rotate_left
  · ((intro w hSw; (try dsimp only at hSw); go_simp) <;> with_reducible rfl)
  (try simp only [Act.put, List.setIfInBounds_toArray, List.set_cons_zero, List.set_cons_succ])
  refine any_take (i := 44) (v := ?_) rfl (by kernel_rfl) (by kernel_rfl) (by kernel_rfl) (by exact fun _ _ _ h => h) (by rfl) ?_ hS ?_
  rotate_left
  · ((intro w hSw; (try dsimp only at hSw); go_simp) <;> with_reducible rfl)
  (try simp only [Act.put, List.setIfInBounds_toArray, List.set_cons_zero, List.set_cons_succ])
  refine any_take (i := 45) (v := ?_) rfl (by kernel_rfl) (by kernel_rfl) (by kernel_rfl) (by exact fun _ _ _ h => h) (by rfl) ?_ hS ?_
  rotate_left
  · ((intro w hSw; (try dsimp only at hSw); go_simp) <;> with_reducible rfl)
  (try simp only [Act.put, List.setIfInBounds_toArray, List.set_cons_zero, List.set_cons_succ])
  refine any_take (i := 47) (v := ?_) rfl (by kernel_rfl) (by kernel_rfl) (by kernel_rfl) (by exact fun _ _ _ h => h) (by rfl) ?_ hS ?_
  rotate_left
  · ((intro w hSw; (try dsimp only at hSw); go_simp) <;> with_reducible rfl)
  (try simp only [Act.put, List.setIfInBounds_toArray, List.set_cons_zero, List.set_cons_succ])
  have K7 : Hid _ := lawruns_q g b m _ (HO.out.1.later B6) HO.out.2.2.1
  refine any_one (i := 46) rfl (by kernel_rfl) (fun K hK => ?_)
  go_simp
  refine (Calls.mono (K7.out)) ?_
  rintro e x7 ⟨xr7, cr7, Tr7, rfl, hTr7, hOr7, hbR⟩
  have B7 : Below w3.heap.size w3 x7 := below_then B6 hbR
  clear K7
  go_wp2_with fail
  refine hK.out _ _ (by first | exact B7 | exact hbR | exact below_then hS hbR) (any_weaken (S' := fun W => Below x7.heap.size x7 W) (fun W hW => by first | exact below_then B7 hW | exact below_then hbR hW | exact below_then (below_then hS hbR) hW) _ _ _ _ ?_)
  clear hK K hS hbR
  have hS : Below x7.heap.size x7 x7 := Below.refl _ _
  have HN1 : Hid _ := And.intro hTr7 hOr7
  clear hTr7 hOr7
  have K8 : Hid _ := riRuns_q r lb V m _ (HO.out.2.1.later B7) HO.out.2.2.1
  refine any_one (i := 48) rfl (by kernel_rfl) (fun K hK => ?_)
  go_simp
  refine (Calls.mono (K8.out)) ?_
  rintro e x8 ⟨xr8, cr8, Tr8, rfl, hTr8, hOr8, hbR⟩
  have B8 : Below w3.heap.size w3 x8 := below_then B7 hbR
  clear K8
  go_wp2_with fail
  refine hK.out _ _ (by first | exact B8 | exact hbR | exact below_then hS hbR) (any_weaken (S' := fun W => Below x8.heap.size x8 W) (fun W hW => by first | exact below_then B8 hW | exact below_then hbR hW | exact below_then (below_then hS hbR) hW) _ _ _ _ ?_)
  have HN2 : Hid _ := And.intro hTr8 (And.intro hOr8 (HN1.out.2.later hbR))
  clear hK K hS hbR
  have hS : Below x8.heap.size x8 x8 := Below.refl _ _
  clear hTr8 hOr8
  have K9 : Hid _ := sameRuns_yes _ _ _ _ _ _ (rnN m m.n) _ (by have := HLl.out.2.2; omega) HN1.out.1 HN2.out.1 HN2.out.2.2 HN2.out.2.1
  refine any_one (i := 49) rfl (by kernel_rfl) (fun K hK => ?_)
  go_simp
  refine (Calls.mono (K9.out)) ?_
  rintro e x9 ⟨rfl, hbR⟩
  have B9 : Below w3.heap.size w3 x9 := below_then B8 hbR
  clear K9
  go_wp2_with fail
  refine hK.out _ _ (by first | exact B9 | exact hbR | exact below_then hS hbR) (any_weaken (S' := fun W => Below x9.heap.size x9 W) (fun W hW => by first | exact below_then B9 hW | exact below_then hbR hW | exact below_then (below_then hS hbR) hW) _ _ _ _ ?_)
  clear hK K hS hbR
  have hS : Below x9.heap.size x9 x9 := Below.refl _ _
  refine any_take (i := 50) (v := ?_) rfl (by kernel_rfl) (by kernel_rfl) (by kernel_rfl) (by exact fun _ _ _ h => h) (by rfl) ?_ hS ?_
  rotate_left
  · ((intro w hSw; (try dsimp only at hSw); go_simp) <;> with_reducible rfl)
  (try simp only [Act.put, List.setIfInBounds_toArray, List.set_cons_zero, List.set_cons_succ])
  refine any_take (i := 51) (v := ?_) rfl (by kernel_rfl) (by kernel_rfl) (by kernel_rfl) (by exact fun _ _ _ h => h) (by rfl) ?_ hS ?_
  rotate_left
  · ((intro w hSw; (try dsimp only at hSw); go_simp) <;> with_reducible rfl)
  (try simp only [Act.put, List.setIfInBounds_toArray, List.set_cons_zero, List.set_cons_succ])
  refine wpAnyH_done (by kernel_rfl) ?_ _
  go_wp2_with fail
  have HSp : Hid _ := Spoil_own _ _ _ _ (H3.out.1.later B9) (by rw [HNL.out.1]; exact HLl.out.1)
  refine (Calls.mono HSp.out) ?_
  rintro e w8 ⟨rfl, g8⟩
  clear HSp
  have hb8 := (below_then H3.out.2.2.2.1 B9).grown g8 (below_then H3.out.2.2.2.1 B9).size (fun q hq => (HLo.out q hq).1)
  have ho8 := own_kept (H3.out.2.2.1.later B9) g8 (fun q hq e => by have h1 := (World.ownsRow.lt H3.out.2.2.1 q hq).1; have h2 := (HLo.out q e).2; omega)
  have H8 : Hid _ := And.intro hb8 ho8
  clear hb8 ho8 g8
  go_wp2_with fail
  have HSp : Hid _ := Spoil_own _ _ _ _ H8.out.2 (by rw [HNL.out.2]; have := HLl.out.2.1; omega)
  refine (Calls.mono HSp.out) ?_
  rintro e w9 ⟨rfl, g9⟩
  clear HSp
  have F : Hid _ := H8.out.1.grown g9 H8.out.1.size (fun q hq => Nat.le_trans H3.out.2.2.2.2 (World.ownsRow.lt H8.out.2 q hq).1)
  clear g9 H8
  go_wp2
  go_ret
  exact ⟨rfl, F.out⟩
end Go.Proofs.Ytmkacgdbmojomaa

