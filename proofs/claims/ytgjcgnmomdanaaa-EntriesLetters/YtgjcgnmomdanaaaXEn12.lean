/- A log up to a place, and one with its floor there. -/
import Derived.Test.YtgjcgnmomdanaaaXEn10
import Derived.Lib.SliceRun
namespace Go.Proofs.Ytgjcgnmomdanaaa
open Go.RowKit
set_option linter.unusedVariables false
set_option maxRecDepth 20000

theorem nil_parts (W : World) (a : Option Addr) (l c : Nat) : (binOp .eql 112 (.slice a l c) (.slice none 0 0)).run Try.prog W = .ok (.bool a.isNone) W :=
  Lib.run_eql_slice_nil W 112 132 a l c 0 0 Try.underlying112
theorem PsOwn.nil (w : World) (base : Nat) : PsOwn w base (.slice none 0 0) [] := World.ownsRow_nil _ _ _ _
theorem own_empty_parts (w : World) : PsOwn (w.alloc (.cells #[] 132)) w.heap.size (.slice (some ⟨w.heap.size, 0, none⟩) 0 0) [] :=
  ⟨by simp, .inr ⟨w.heap.size, 0, #[], rfl, Nat.le_refl _, (show Blk _ _ _ [] from Blk.new' w _ []), Nat.le_refl _, by simp, by simp, by simp⟩⟩
set_option maxHeartbeats 400000 in
theorem CloneParts_any (a : Option Addr) (cap : Nat) (l : List Ent) (w : World) (hle : l.length ≤ cap) (hm : l.length ≤ 5000) (hp : PsAt w a l) :
    Calls Try.prog 95 #[.slice a l.length cap] w fun e w' => ∃ v, e = .returned v ∧ PsOwn w' w.heap.size v l ∧ Below w.heap.size w w' := by
  cases a with
  | none =>
    obtain rfl : l = [] := by
      rcases hp with h | ⟨b, off, h, _⟩
      · exact h
      · cases h
    have hq : ∀ W : World, (binOp .eql 112 (.slice none 0 cap) (.slice none 0 0)).run Try.prog W = .ok (.bool true) W := fun W => by rw [nil_parts]; rfl
    go_enter Try.func95, Try.ntmps95
    go_wp2
    go_ret
    exact ⟨_, rfl, PsOwn.nil _ _, Below.refl _ _⟩
  | some x =>
    have hb : Below w.heap.size w (w.alloc (.cells #[] 132)) := (Below.refl _ _).alloc (Nat.le_refl _) _
    have hp' := PsAt.later hp hb
    have hq : ∀ W : World, (binOp .eql 112 (.slice (some x) l.length cap) (.slice none 0 0)).run Try.prog W = .ok (.bool false) W := fun W => by rw [nil_parts]; rfl
    have ho := own_empty_parts w
    have hnews : ∀ j u, (l.map pv)[j]? = some u → (w.alloc (.cells #[] 132)).cell? (x.add j) = some u := by
      intro j u hj
      rw [List.getElem?_map] at hj
      have hjl : j < l.length := by
        rcases Nat.lt_or_ge j l.length with h | h
        · exact h
        · rw [List.getElem?_eq_none h] at hj; cases hj
      rw [List.getElem?_eq_getElem hjl] at hj
      rcases hp' with h | ⟨b, off, h, hc⟩
      · rw [h] at hjl; simp at hjl
      · cases h
        have e : (⟨b, off, none⟩ : Addr).add j = ⟨b, off + j, none⟩ := by unfold Addr.add; split <;> simp_all
        rw [e, hc j hjl]; exact hj
    obtain ⟨i0, hi, hz0, hz1, hz2⟩ := info_parts info_part
    have H : Hid _ := And.intro ho (And.intro hnews hb)
    clear ho hnews hb hp hp'
    go_enter Try.func95, Try.ntmps95
    go_wp2_with (at_builtin; refine wpList_append_own_at (w := _) rfl _ _ 112 rfl w.heap.size 132 i0 .nilIface 1 16 Try.underlying112 hi hz0 hz1 hz2 rfl (by decide) _ 0 [] rfl H.out.1 x l.length cap (l.map pv) rfl (by simp) H.out.2.1 (fun y hy => by obtain ⟨e, _, rfl⟩ := List.mem_map.1 hy; exact pv_one e) (by unfold maxLen; omega) (by omega) (by simp) ?_)
    intro v' w' ho' hg' _ _
    have hb' : Below w.heap.size w w' := H.out.2.2.grown hg' H.out.2.2.size (fun k hk => by simp [Value.ownBlock] at hk; omega)
    have F : Hid _ := And.intro ho' hb'
    clear ho' hg' hb' H
    go_wp2
    go_ret
    exact ⟨_, rfl, by simpa [PsOwn] using F.out.1, F.out.2⟩

theorem placeError_nil (n : Int) (w : World) :
    Calls Try.prog 94 #[.pointer none, .int .i64 n] w fun e w' => e = .returned (.int .i64 2) ∧ w = w' := by
  go_enter Try.func94, Try.ntmps94
  go_wp2
  go_ret
  exact ⟨rfl, rfl⟩
theorem Lm.term_has {m : Lm} (hw : m.Wf) (n : Int) : (m.term n = -1) ↔ m.hasB n = false := by
  unfold Lm.hasB
  rw [decide_eq_false_iff_not]
  rcases m.cases n with h1 | h1 | ⟨i, hi, h1⟩ | h1
  · rw [(Lm.part_low h1).2]; exact ⟨fun _ => by omega, fun _ => rfl⟩
  · rw [(Lm.part_fl h1).2]; exact ⟨fun h => by omega, fun h => by omega⟩
  · rw [(Lm.part_in hi h1).2]
    have := (canE_term (hw.each _ (List.getElem_mem hi))).1
    exact ⟨fun h => by omega, fun h => by omega⟩
  · rw [(Lm.part_high h1).2]; exact ⟨fun _ => by omega, fun _ => rfl⟩
set_option maxHeartbeats 400000 in
theorem placeError_any (g : Nat) (m : Lm) (n : Int) (w : World) (h : Lg w g m) (hw : m.Wf) (hn : I64 n) :
    Calls Try.prog 94 #[.pointer (some ⟨g, 0, none⟩), .int .i64 n] w fun e w' => (m.hasB n = false → e = .returned (.int .i64 1)) ∧ (m.hasB n = true → e = .returned (.int .i64 0)) ∧ Below w.heap.size w w' := by
  have HT := enTerm_any g m n w h hw hn
  have ht := Lm.term_has hw n
  have HE : Hid _ := ht
  clear h hw hn
  by_cases c1 : m.term n = -1
  · have c2 := ht.1 c1
    rw [c1] at HT
    clear c1 ht
    go_enter Try.func94, Try.ntmps94
    go_wp2_with (go_at_call 89; refine HT.mono ?_; rintro e w' ⟨rfl, hb⟩)
    go_ret
    exact ⟨fun _ => rfl, fun h => (by rw [c2] at h; cases h), hb⟩
  · have c2 : ¬ m.hasB n = false := fun h => c1 (ht.2 h)
    generalize m.term n = t at *
    clear ht
    go_enter Try.func94, Try.ntmps94
    go_wp2_with (go_at_call 89; refine HT.mono ?_; rintro e w' ⟨rfl, hb⟩)
    go_ret
    exact ⟨fun h => absurd h c2, fun _ => rfl, hb⟩
end Go.Proofs.Ytgjcgnmomdanaaa

/- A log up to a place, and one with its floor there: the calls. -/
namespace Go.Proofs.Ytgjcgnmomdanaaa
open Go.RowKit
set_option linter.unusedVariables false
set_option maxRecDepth 20000

/-- the log without the entries above the first k -/
def Lm.upto (m : Lm) (k : Nat) : Lm := ⟨m.fl, m.ft, m.fm, m.l.take k⟩
theorem enUpto_nil (n : Int) (w : World) :
    Calls Try.prog 91 #[.pointer none, .int .i64 n] w fun r w' => r = .returned (.tuple #[.pointer none, .int .i64 2]) ∧ w = w' := by
  have HP := placeError_nil n w
  go_enter Try.func91, Try.ntmps91
  go_wp2_with (go_at_call 94; refine HP.mono ?_; rintro e w' ⟨rfl, rfl⟩)
  go_ret2
  exact ⟨rfl, rfl⟩

set_option maxHeartbeats 2000000 in
theorem enUpto_yes (g : Nat) (m : Lm) (n : Int) (k : Nat) (w : World) (h : Lg w g m) (hw : m.Wf) (hk : k ≤ m.l.length) (hn : n = (m.fl : Int) + k) :
    Calls Try.prog 91 #[.pointer (some ⟨g, 0, none⟩), .int .i64 n] w fun r w' => ∃ g', r = .returned (.tuple #[.pointer (some ⟨g', 0, none⟩), .int .i64 0]) ∧ w.heap.size ≤ g' ∧ Lg w' g' (m.upto k) ∧ Below w.heap.size w w' := by
  have hpl := hw.place
  have hfu := hw.full
  have hhas : m.hasB n = true := decide_eq_true (by omega)
  have HP := placeError_any g m n w h hw (by unfold I64; omega)
  have q1 : n - (m.fl : Int) = k := by omega
  have q2 : (k : Int) ≤ (m.l.length : Int) := by omega
  have HN : Hid _ := hn
  obtain ⟨a, c, c0, c1, c2, c3, hc, hcm, hp⟩ := h.cells
  have q3 : (k : Int) ≤ (c : Int) := by omega
  have q4 : -9223372036854775808 ≤ n ∧ n ≤ 9223372036854775807 := by omega
  have HX : Hid (PsAt w a m.l) := hp
  clear h hw hp hn
  go_enter Try.func91, Try.ntmps91
  go_wp2_with fail
  refine HP.mono ?_
  rintro e w1 ⟨-, he, hb1⟩
  obtain rfl := he hhas
  have d0 := cell_later hb1 c0
  have d1 := cell_later hb1 c1
  have d2 := cell_later hb1 c2
  have d3 := cell_later hb1 c3
  have hp1 : PsAt w1.drew a (m.l.take k) := by
    rcases PsAt.later HX.out hb1 with e | ⟨b, off, rfl, hcell⟩
    · exact .inl (by rw [e]; simp)
    · refine .inr ⟨b, off, rfl, fun i hi => ?_⟩
      rw [List.length_take] at hi
      have := hcell i (by omega)
      rw [List.getElem_take]; exact this
  have HC : Hid _ := CloneParts_any a c (m.l.take k) w1.drew (by rw [List.length_take]; omega) (by rw [List.length_take]; omega) hp1
  have hlk : (m.l.take k).length = k := by rw [List.length_take]; omega
  rw [hlk] at HC
  have HB : Hid _ := hb1
  have HL : Hid ((m.l.take k).length = k) := hlk
  have q5 : (k : Int) ≤ 4096 := by omega
  clear he hhas HP c0 c1 c2 c3 hb1 hp1 HX HN hpl hfu hlk
  go_wp2_with fail
  refine wp_region_held_drew (S := fun W => W.cell? ⟨g, 0, none⟩ = some (.int .i64 m.fl) ∧ W.cell? ⟨g, 1, none⟩ = some (.int .i64 m.ft) ∧ W.cell? ⟨g, 2, none⟩ = some (.int .i64 m.fm) ∧ W.cell? ⟨g, 3, none⟩ = some (.slice a m.l.length c)) (by kernel_rfl) ⟨d0, d1, d2, d3⟩ (fun hS => ?_)
  refine any_take (i := 0) (v := ?_) rfl (by kernel_rfl) (by kernel_rfl) (by kernel_rfl) (by exact fun _ _ _ h => h) (by rfl) ?_ hS ?_
  rotate_left
  · ((intro w hSw; (try dsimp only at hSw); go_simp) <;> with_reducible rfl)
  (try simp only [Act.put, List.setIfInBounds_toArray, List.set_cons_zero, List.set_cons_succ])
  refine any_take (i := 1) (v := ?_) rfl (by kernel_rfl) (by kernel_rfl) (by kernel_rfl) (by exact fun _ _ _ h => h) (by rfl) ?_ hS ?_
  rotate_left
  · ((intro w hSw; (try dsimp only at hSw); go_simp) <;> with_reducible rfl)
  (try simp only [Act.put, List.setIfInBounds_toArray, List.set_cons_zero, List.set_cons_succ])
  refine any_take (i := 2) (v := ?_) rfl (by kernel_rfl) (by kernel_rfl) (by kernel_rfl) (by exact fun _ _ _ h => h) (by rfl) ?_ hS ?_
  rotate_left
  · ((intro w hSw; (try dsimp only at hSw); go_simp) <;> with_reducible rfl)
  (try simp only [Act.put, List.setIfInBounds_toArray, List.set_cons_zero, List.set_cons_succ])
  refine any_take (i := 3) (v := .agg #[.int .i64 m.fl, .int .i64 m.ft, .int .i64 m.fm]) rfl (by kernel_rfl) (by kernel_rfl) (by kernel_rfl) (by exact fun _ _ _ h => h) (by rfl) ?_ hS ?_
  · intro W hSW; obtain ⟨cA, cB, cC, cD⟩ := hSW; go_simp
  (try simp only [Act.put, List.setIfInBounds_toArray, List.set_cons_zero, List.set_cons_succ])
  refine any_take (i := 4) (v := ?_) rfl (by kernel_rfl) (by kernel_rfl) (by kernel_rfl) (by exact fun _ _ _ h => h) (by rfl) ?_ hS ?_
  rotate_left
  · ((intro w hSw; (try dsimp only at hSw); go_simp) <;> with_reducible rfl)
  (try simp only [Act.put, List.setIfInBounds_toArray, List.set_cons_zero, List.set_cons_succ])
  refine any_take (i := 5) (v := ?_) rfl (by kernel_rfl) (by kernel_rfl) (by kernel_rfl) (by exact fun _ _ _ h => h) (by rfl) ?_ hS ?_
  rotate_left
  · ((intro w hSw; (try dsimp only at hSw); go_simp) <;> with_reducible rfl)
  (try simp only [Act.put, List.setIfInBounds_toArray, List.set_cons_zero, List.set_cons_succ])
  refine any_take (i := 6) (v := ?_) rfl (by kernel_rfl) (by kernel_rfl) (by kernel_rfl) (by exact fun _ _ _ h => h) (by rfl) ?_ hS ?_
  rotate_left
  · ((intro w hSw; (try dsimp only at hSw); go_simp) <;> with_reducible rfl)
  (try simp only [Act.put, List.setIfInBounds_toArray, List.set_cons_zero, List.set_cons_succ])
  refine any_take (i := 7) (v := .slice a m.l.length c) rfl (by kernel_rfl) (by kernel_rfl) (by kernel_rfl) (by exact fun _ _ _ h => h) (by rfl) ?_ hS ?_
  · intro W hSW; obtain ⟨cA, cB, cC, cD⟩ := hSW; go_simp
  (try simp only [Act.put, List.setIfInBounds_toArray, List.set_cons_zero, List.set_cons_succ])
  refine any_take (i := 8) (v := ?_) rfl (by kernel_rfl) (by kernel_rfl) (by kernel_rfl) (by exact fun _ _ _ h => h) (by rfl) ?_ hS ?_
  rotate_left
  · ((intro w hSw; (try dsimp only at hSw); go_simp) <;> with_reducible rfl)
  (try simp only [Act.put, List.setIfInBounds_toArray, List.set_cons_zero, List.set_cons_succ])
  refine any_take (i := 9) (v := ?_) rfl (by kernel_rfl) (by kernel_rfl) (by kernel_rfl) (by exact fun _ _ _ h => h) (by rfl) ?_ hS ?_
  rotate_left
  · ((intro w hSw; (try dsimp only at hSw); go_simp) <;> with_reducible rfl)
  (try simp only [Act.put, List.setIfInBounds_toArray, List.set_cons_zero, List.set_cons_succ])
  refine any_take (i := 10) (v := ?_) rfl (by kernel_rfl) (by kernel_rfl) (by kernel_rfl) (by exact fun _ _ _ h => h) (by rfl) ?_ hS ?_
  rotate_left
  · ((intro w hSw; (try dsimp only at hSw); go_simp) <;> with_reducible rfl)
  (try simp only [Act.put, List.setIfInBounds_toArray, List.set_cons_zero, List.set_cons_succ])
  refine any_take (i := 11) (v := ?_) rfl (by kernel_rfl) (by kernel_rfl) (by kernel_rfl) (by exact fun _ _ _ h => h) (by rfl) ?_ hS ?_
  rotate_left
  · ((intro w hSw; (try dsimp only at hSw); go_simp) <;> with_reducible rfl)
  (try simp only [Act.put, List.setIfInBounds_toArray, List.set_cons_zero, List.set_cons_succ])
  refine any_take (i := 12) (v := ?_) rfl (by kernel_rfl) (by kernel_rfl) (by kernel_rfl) (by exact fun _ _ _ h => h) (by rfl) ?_ hS ?_
  rotate_left
  · ((intro w hSw; (try dsimp only at hSw); go_simp) <;> with_reducible rfl)
  (try simp only [Act.put, List.setIfInBounds_toArray, List.set_cons_zero, List.set_cons_succ])
  refine any_take (i := 13) (v := .int .i64 m.fl) rfl (by kernel_rfl) (by kernel_rfl) (by kernel_rfl) (by exact fun _ _ _ h => h) (by rfl) ?_ hS ?_
  · intro W hSW; obtain ⟨cA, cB, cC, cD⟩ := hSW; go_simp
  (try simp only [Act.put, List.setIfInBounds_toArray, List.set_cons_zero, List.set_cons_succ])
  refine any_take (i := 14) (v := .int .i64 k) rfl (by kernel_rfl) (by kernel_rfl) (by kernel_rfl) (by exact fun _ _ _ h => h) (by rfl) ?_ hS ?_
  · intro W hSW; obtain ⟨cA, cB, cC, cD⟩ := hSW; go_simp; rw [IntKind.wrap_i64]; omega
  (try simp only [Act.put, List.setIfInBounds_toArray, List.set_cons_zero, List.set_cons_succ])
  refine any_take (i := 15) (v := .slice a k c) rfl (by kernel_rfl) (by kernel_rfl) (by kernel_rfl) (by exact fun _ _ _ h => h) (by rfl) ?_ hS ?_
  · intro W hSW; obtain ⟨cA, cB, cC, cD⟩ := hSW; go_simp
  (try simp only [Act.put, List.setIfInBounds_toArray, List.set_cons_zero, List.set_cons_succ])
  refine any_one (i := 16) rfl (by kernel_rfl) (fun K hK => ?_)
  go_simp
  refine (Calls.mono HC.out) ?_
  rintro e w2 ⟨v, rfl, ho2, b2⟩
  have g0 := cell_later b2 d0
  have g1 := cell_later b2 d1
  have g2 := cell_later b2 d2
  have g3 := cell_later b2 d3
  obtain ⟨va, vc, rfl, hvc, hvm, hps⟩ := PsOwn.open ho2
  rw [HL.out] at hvc ⊢
  go_wp2_with fail
  refine hK.out _ _ ⟨g0, g1, g2, g3⟩ ?_
  clear hK K hS
  have hS := And.intro g0 (And.intro g1 (And.intro g2 g3))
  refine any_take (i := 17) (v := .agg #[.int .i64 m.fl, .int .i64 m.ft, .int .i64 m.fm, .slice va k vc]) rfl (by kernel_rfl) (by kernel_rfl) (by kernel_rfl) (by exact fun _ _ _ h => h) (by rfl) ?_ hS ?_
  · intro W hSW; obtain ⟨cA, cB, cC, cD⟩ := hSW; go_simp
  (try simp only [Act.put, List.setIfInBounds_toArray, List.set_cons_zero, List.set_cons_succ])
  have BN : Blk (w2.alloc (.cells #[.int .i64 m.fl, .int .i64 m.ft, .int .i64 m.fm, .slice va k vc] 114)) w2.heap.size 114 [.int .i64 m.fl, .int .i64 m.ft, .int .i64 m.fm, .slice va k vc] := Blk.new' w2 _ _
  have bN : Below w2.heap.size w2 (w2.alloc (.cells #[.int .i64 m.fl, .int .i64 m.ft, .int .i64 m.fm, .slice va k vc] 114)) := (Below.refl _ _).alloc (Nat.le_refl _) _
  have hL : Lg (w2.alloc (.cells #[.int .i64 m.fl, .int .i64 m.ft, .int .i64 m.fm, .slice va k vc] 114)) w2.heap.size (m.upto k) := ⟨va, vc, by rw [show (m.upto k).l.length = k from HL.out]; exact BN, by rw [show (m.upto k).l.length = k from HL.out]; exact hvc, hvm, PsAt.later hps bN⟩
  refine any_on (i := 18) rfl (by kernel_rfl) (fun K hK => ?_)
  go_simp
  refine hK.out _ _ ⟨cell_later bN g0, cell_later bN g1, cell_later bN g2, cell_later bN g3⟩ (fun hS1 => ?_)
  clear hK K hS
  have hS := hS1
  clear hS1
  (try simp only [Act.put, List.setIfInBounds_toArray, List.set_cons_zero, List.set_cons_succ])
  refine any_take (i := 19) (v := ?_) rfl (by kernel_rfl) (by kernel_rfl) (by kernel_rfl) (by exact fun _ _ _ h => h) (by rfl) ?_ hS ?_
  rotate_left
  · ((intro w hSw; (try dsimp only at hSw); go_simp) <;> with_reducible rfl)
  (try simp only [Act.put, List.setIfInBounds_toArray, List.set_cons_zero, List.set_cons_succ])
  refine any_take (i := 20) (v := ?_) rfl (by kernel_rfl) (by kernel_rfl) (by kernel_rfl) (by exact fun _ _ _ h => h) (by rfl) ?_ hS ?_
  rotate_left
  · ((intro w hSw; (try dsimp only at hSw); go_simp) <;> with_reducible rfl)
  (try simp only [Act.put, List.setIfInBounds_toArray, List.set_cons_zero, List.set_cons_succ])
  refine wpAnyH_done (by kernel_rfl) ?_ _
  have F : Hid _ := And.intro hL (And.intro (below_then (below_then (below_then HB.out (Below.refl _ _).drew) b2) bN) (Nat.le_trans (Nat.le_trans HB.out.size (Nat.le_refl _)) b2.size))
  clear hL BN bN g0 g1 g2 g3 d0 d1 d2 d3 hS b2 hps ho2 hvc hvm HC HB HL
  go_wp2
  go_ret2
  exact ⟨_, rfl, F.out.2.2, F.out.1, F.out.2.1⟩
set_option maxHeartbeats 1000000 in
theorem enUpto_no (g : Nat) (m : Lm) (n : Int) (w : World) (h : Lg w g m) (hw : m.Wf) (hn : I64 n) (hh : m.hasB n = false) :
    Calls Try.prog 91 #[.pointer (some ⟨g, 0, none⟩), .int .i64 n] w fun r w' => r = .returned (.tuple #[.pointer none, .int .i64 1]) ∧ Below w.heap.size w w' := by
  have HP := placeError_any g m n w h hw hn
  clear h hw hn
  go_enter Try.func91, Try.ntmps91
  go_wp2_with fail
  refine HP.mono ?_
  rintro e w1 ⟨he, -, hb1⟩
  obtain rfl := he hh
  clear he HP
  go_wp2
  go_ret2
  exact ⟨rfl, hb1⟩

/-- the log with its floor at the k-th place above its elder one -/
def Lm.over (m : Lm) (k : Nat) : Lm := ⟨m.fl + k, (m.term ((m.fl : Int) + k)).toNat, (m.mem ((m.fl : Int) + k)).toNat, m.l.drop k⟩
theorem memK_bd {m : Lm} (hw : m.Wf) (k : Nat) : 1 ≤ m.memK k ∧ m.memK k ≤ 31 := by
  induction k with
  | zero => have := hw.mask; unfold Lm.memK; omega
  | succ k ih =>
    rw [Lm.memK]
    cases h : m.l[k]? with
    | none => exact ih
    | some e =>
      have hc := canE_kind (hw.each e (List.mem_of_getElem? h))
      by_cases h2 : e.1 = 2
      · simp only [h2, if_true]; omega
      · simp only [h2, if_false]; exact ih
theorem term_bd {m : Lm} (hw : m.Wf) {n : Int} (h : m.hasB n = true) : 0 ≤ m.term n ∧ m.term n ≤ 1099511627776 := by
  have h' := of_decide_eq_true h
  rcases m.cases n with h1 | h1 | ⟨i, hi, h1⟩ | h1
  · omega
  · rw [(Lm.part_fl h1).2]; have := hw.term; omega
  · rw [(Lm.part_in hi h1).2]; have := canE_term (hw.each _ (List.getElem_mem hi)); omega
  · omega

end Go.Proofs.Ytgjcgnmomdanaaa

/- Whether entries can be joined; where to go back to; a log with entries in the place of others. -/
namespace Go.Proofs.Ytgjcgnmomdanaaa
open Go.RowKit
set_option linter.unusedVariables false
set_option maxRecDepth 20000

/-- can count entries behind a place be joined? -/
def Lm.meetsB (m : Lm) (n t : Int) (c : Nat) : Bool := if n < m.fl then decide ((m.fl : Int) - c < n) else m.holdsB n t
set_option maxHeartbeats 1000000 in
theorem enmeets_any (g : Nat) (m : Lm) (n t : Int) (c : Nat) (w : World) (h : Lg w g m) (hw : m.Wf) (hn : I64 n) (hc : c ≤ 140737488355328) :
    Calls Try.prog 67 #[.pointer (some ⟨g, 0, none⟩), .int .i64 n, .int .i64 t, .int .i64 c] w fun e w' => e = .returned (.bool (m.meetsB n t c)) ∧ Below w.heap.size w w' := by
  have hpl := hw.place
  have HO := enholds_any g m n t w h hw hn
  obtain ⟨a, cc, c0, c1, c2, c3, hcc, hcm, hp⟩ := h.cells
  by_cases h1 : n < m.fl
  · have E : Hid (m.meetsB n t c = decide ((m.fl : Int) - c < n)) := by exact (show m.meetsB n t c = _ from if_pos h1)
    clear h hw hp HO
    unfold I64 at hn
    go_enter Try.func67, Try.ntmps67
    go_wp2
    go_ret
    exact ⟨ret_bool (by rw [E.out]), Below.refl _ _⟩
  · have E : Hid (m.meetsB n t c = m.holdsB n t) := by exact (show m.meetsB n t c = _ from if_neg h1)
    clear h hw hp
    go_enter Try.func67, Try.ntmps67
    go_wp2_with (go_at_call 69; refine HO.mono ?_; rintro e w' ⟨rfl, hb⟩)
    go_ret
    exact ⟨ret_bool E.out.symm, hb⟩

/-- the place to go back to, from the k-th place above the floor -/
def Lm.backK (m : Lm) : Nat → Int
  | 0 => m.fl
  | k + 1 => if m.begB ((m.fl : Int) + (k + 1 : Nat)) = true then (m.fl : Int) + k else m.backK k
def Lm.back (m : Lm) (n : Int) : Int := if (m.top : Int) < n then m.top else if n ≤ m.fl then m.fl else m.backK (n - m.fl).toNat
set_option maxHeartbeats 2000000 in
theorem enback_any (g : Nat) (m : Lm) (n : Int) (w : World) (h : Lg w g m) (hw : m.Wf) (hn : I64 n) :
    Calls Try.prog 68 #[.pointer (some ⟨g, 0, none⟩), .int .i64 n] w fun e w' => e = .returned (.int .i64 (m.back n)) ∧ Below w.heap.size w w' := by
  have hpl := hw.place
  have hfu := hw.full
  have HT := enTop_any g m w h hw
  have HH : Hid _ := And.intro h hw
  have htop : m.top ≤ 1125899906842624 + 4096 := by unfold Lm.top; omega
  have htl : m.top = m.fl + m.l.length := rfl
  by_cases h1 : (m.top : Int) < n
  · have E : Hid (m.back n = m.top) := by exact (show m.back n = _ from if_pos h1)
    clear h hw htl
    go_enter Try.func68, Try.ntmps68
    go_wp2_with (go_at_call 84; refine HT.mono ?_; rintro e w' ⟨rfl, hb⟩)
    go_ret
    exact ⟨ret_int E.out.symm, hb⟩
  · by_cases h2 : n ≤ m.fl
    · have E : Hid (m.back n = m.fl) := by
        have e1 : m.back n = if n ≤ m.fl then (m.fl : Int) else m.backK (n - m.fl).toNat := if_neg h1
        exact e1.trans (if_pos h2)
      clear h hw htl
      go_enter Try.func68, Try.ntmps68
      go_wp2_with fail
      refine HT.mono ?_
      rintro e w1 ⟨rfl, hb⟩
      obtain ⟨a, cc, c0, -⟩ := (HH.out.1.later hb).cells
      have F : Hid _ := hb
      clear hb HT
      go_wp2_with fail
      refine wp_loop_rounds 1 ?_
      rw [rounds_succ]
      go_wp2
      go_ret
      exact ⟨ret_int E.out.symm, F.out⟩
    · obtain ⟨k0, hk0, e0, hk1⟩ : ∃ k : Nat, k ≤ m.l.length ∧ n = (m.fl : Int) + k ∧ 1 ≤ k := ⟨(n - m.fl).toNat, by omega, by omega, by omega⟩
      have E : Hid (m.back n = m.backK k0) := by
        have e1 : m.back n = if n ≤ m.fl then (m.fl : Int) else m.backK (n - m.fl).toNat := if_neg h1
        have e2 : (n - m.fl).toNat = k0 := by omega
        rw [e2] at e1
        exact e1.trans (if_neg h2)
      subst e0
      clear h hw htl h2 hn
      go_enter Try.func68, Try.ntmps68
      go_wp2_with fail
      refine HT.mono ?_
      rintro e w1 ⟨rfl, hb1⟩
      have F1 : Hid _ := hb1
      clear HT hb1
      go_wp2_with fail
      go_loopw [1] (fun iv wr => ∃ k : Nat, k ≤ m.l.length ∧ iv = .int .i64 ((m.fl : Int) + k) ∧ m.backK k = m.backK k0 ∧ Below w.heap.size w wr) (fun iv _ => (intOf iv - m.fl).toNat)
      case atStart => exact ⟨k0, hk0, rfl, rfl, F1.out⟩
      case round =>
        obtain ⟨k, hk, rfl, hm, hbw⟩ := hrel
        obtain ⟨a, cc, c0, -⟩ := (HH.out.1.later hbw).cells
        cases k with
        | zero =>
          have F : Hid _ := And.intro hm hbw
          clear hm hbw
          go_wp2
          go_ret
          exact ⟨ret_int (by rw [E.out, ← F.out.1]; rfl), F.out.2⟩
        | succ k =>
          have HB := enbegins_any g m ((m.fl : Int) + (k + 1 : Nat)) wr (HH.out.1.later hbw) HH.out.2 (by unfold I64; omega) (by omega)
          have hkk : m.backK (k + 1) = if m.begB ((m.fl : Int) + (k + 1 : Nat)) = true then (m.fl : Int) + k else m.backK k := rfl
          cases hbg : m.begB ((m.fl : Int) + (k + 1 : Nat)) with
          | true =>
            rw [hbg] at HB hkk
            rw [if_pos rfl] at hkk
            have F : Hid _ := And.intro (hkk.symm.trans hm) hbw
            clear hm hbw hkk hbg
            go_wp2_with (go_at_call 88; refine HB.mono ?_; rintro e w' ⟨rfl, hb2⟩)
            go_ret
            exact ⟨ret_int (by rw [E.out, ← F.out.1]; omega), below_then F.out.2 hb2⟩
          | false =>
            rw [hbg] at HB hkk
            rw [if_neg (by decide)] at hkk
            have F : Hid _ := And.intro (hkk.symm.trans hm) hbw
            clear hm hbw hkk hbg
            go_wp2_with (go_at_call 88; refine HB.mono ?_; rintro e w' ⟨rfl, hb2⟩)
            go_roundw
            case rel => exact ⟨k, by omega, by go_num, F.out.1, below_then F.out.2 hb2⟩
            case measure => simp [intOf]; omega

theorem Lm.upto_wf {m : Lm} (hw : m.Wf) (k : Nat) : (m.upto k).Wf :=
  ⟨hw.place, hw.term, hw.mask, by unfold Lm.upto; rw [List.length_take]; have := hw.full; omega, fun e he => hw.each e (List.mem_of_mem_take he), by
    unfold Lm.upto
    simp only [List.map_take]
    exact hw.rise.sublist (List.Sublist.cons_cons _ (List.take_sublist _ _))⟩
/-- what comes of entries in the place of all from the k-th one on -/
def ReplR (w w' : World) (m : Lm) (k : Nat) (l : List Ent) (r : Ending) : Prop :=
  (∃ e : Int, (4096 < k + l.length ∨ goodB (m.upto k).tt l = false) ∧ e ≠ 0 ∧ r = .returned (.tuple #[.pointer none, .int .i64 e])) ∨ (k + l.length ≤ 4096 ∧ goodB (m.upto k).tt l = true ∧ ∃ g', r = .returned (.tuple #[.pointer (some ⟨g', 0, none⟩), .int .i64 0]) ∧ w.heap.size ≤ g' ∧ Lg w' g' ((m.upto k).with l))
set_option maxHeartbeats 1000000 in
theorem enreplacing_any (g : Nat) (m : Lm) (n : Int) (k : Nat) (a : Option Addr) (cap : Nat) (l : List Ent) (w : World) (h : Lg w g m) (hw : m.Wf) (hk : k ≤ m.l.length) (hn : n = (m.fl : Int) + k + 1) (hlc : l.length ≤ cap) (hlen : l.length ≤ 140737488355328) (hA : EArgs w a l) :
    Calls Try.prog 70 #[.pointer (some ⟨g, 0, none⟩), .int .i64 n, .slice a l.length cap] w fun r w' => ReplR w w' m k l r ∧ Below w.heap.size w w' := by
  have hpl := hw.place
  have hfu := hw.full
  have HU := enUpto_yes g m (n - 1) k w h hw hk (by omega)
  have hkl : (m.upto k).l.length = k := by unfold Lm.upto; simp; omega
  have q1 : -9223372036854775808 ≤ n ∧ n ≤ 9223372036854775807 := by omega
  have q2 : (m.fl : Int) < n := by omega
  have HH : Hid (m.Wf ∧ EArgs w a l ∧ (m.upto k).l.length = k) := And.intro hw (And.intro hA hkl)
  clear h hw hn hA hkl
  go_enter Try.func70, Try.ntmps70
  go_wp2_with fail
  refine HU.mono ?_
  rintro e w1 ⟨g1, rfl, hg1, L1, hb1⟩
  have hA1 := HH.out.2.1.later hb1
  have hwf := Lm.upto_wf HH.out.1 k
  by_cases hf : 4096 < k + l.length
  · have HW := enWith_full g1 (m.upto k) a l.length cap w1 L1 hwf hlen (by rw [HH.out.2.2]; exact hf)
    clear hA1 hwf L1 HU
    go_wp2_with (go_at_call 65; refine HW.mono ?_; rintro e w' ⟨rfl, rfl⟩)
    go_ret2
    exact ⟨.inl ⟨4, .inl hf, by decide, rfl⟩, hb1⟩
  · have HW := enWith_any g1 (m.upto k) a l.length cap l w1 L1 hwf rfl hlc (by rw [HH.out.2.2]; omega) hA1
    have HX : Hid _ := And.intro hb1 hg1
    clear hA1 hwf L1 HU hb1 hg1
    go_wp2_with fail
    refine HW.mono ?_
    rintro e w2 ⟨(⟨hgd, rfl⟩ | ⟨hgd, g2, rfl, hg2, L2⟩), hb2⟩
    · clear HW
      go_wp2
      go_ret2
      exact ⟨.inl ⟨1, .inr hgd, by decide, rfl⟩, below_then HX.out.1 hb2⟩
    · clear HW
      have F : Hid _ := And.intro L2 hg2
      clear L2 hg2
      go_wp2
      go_ret2
      exact ⟨.inr ⟨by omega, hgd, g2, rfl, by have := HX.out.1.size; have := F.out.2; omega, F.out.1⟩, below_then HX.out.1 hb2⟩
end Go.Proofs.Ytgjcgnmomdanaaa

/- Entries that are joined to a log. -/
namespace Go.Proofs.Ytgjcgnmomdanaaa
open Go.RowKit
set_option linter.unusedVariables false
set_option maxRecDepth 20000

theorem eset5 {w : World} {g : Nat} {T : TypeId} {a b c d e : Value} (M : Blk w g T [a, b, c, d, e]) (x y z u v : Value) (B : Nat) (W0 : World) (hb : Below B W0 w) (hB : B ≤ g) (hs : B ≤ w.heap.size) :
    Blk (((((w.setCell ⟨g, 0, none⟩ x).setCell ⟨g, 1, none⟩ y).setCell ⟨g, 2, none⟩ z).setCell ⟨g, 3, none⟩ u).setCell ⟨g, 4, none⟩ v) g T [x, y, z, u, v] ∧ Below B W0 (((((w.setCell ⟨g, 0, none⟩ x).setCell ⟨g, 1, none⟩ y).setCell ⟨g, 2, none⟩ z).setCell ⟨g, 3, none⟩ u).setCell ⟨g, 4, none⟩ v) :=
  ⟨by simpa using ((((M.set 0 x).set 1 y).set 2 z).set 3 u).set 4 v, (((((hb.trans (grown_below (grown_set w g 0 _) _ hB hs)).trans (grown_below (grown_set _ g 1 _) _ hB (by simpa [World.setCell] using hs))).trans (grown_below (grown_set _ g 2 _) _ hB (by simpa [World.setCell] using hs))).trans (grown_below (grown_set _ g 3 _) _ hB (by simpa [World.setCell] using hs))).trans (grown_below (grown_set _ g 4 _) _ hB (by simpa [World.setCell] using hs)))⟩
theorem eset5_size (w : World) (g : Nat) (x y z u v : Value) : (((((w.setCell ⟨g, 0, none⟩ x).setCell ⟨g, 1, none⟩ y).setCell ⟨g, 2, none⟩ z).setCell ⟨g, 3, none⟩ u).setCell ⟨g, 4, none⟩ v).heap.size = w.heap.size := by simp [World.setCell]
theorem eset5_block (w : World) (g : Nat) (x y z u v : Value) (k : Nat) (h : k ≠ g) : (((((w.setCell ⟨g, 0, none⟩ x).setCell ⟨g, 1, none⟩ y).setCell ⟨g, 2, none⟩ z).setCell ⟨g, 3, none⟩ u).setCell ⟨g, 4, none⟩ v).heap[k]? = w.heap[k]? := by
  rw [Below.heap_setCell _ _ _ _ h, Below.heap_setCell _ _ _ _ h, Below.heap_setCell _ _ _ _ h, Below.heap_setCell _ _ _ _ h, Below.heap_setCell _ _ _ _ h]
theorem eblk5 {w : World} {g : Nat} {T : TypeId} {a b c d e : Value} (M : Blk w g T [a, b, c, d, e]) : (w.cell? ⟨g, 0, none⟩ = some a ∧ w.cell? ⟨g, 1, none⟩ = some b ∧ w.cell? ⟨g, 2, none⟩ = some c ∧ w.cell? ⟨g, 3, none⟩ = some d ∧ w.cell? ⟨g, 4, none⟩ = some e) ∧ w.frozen? ⟨g, 0, none⟩ = false ∧ w.frozen? ⟨g, 1, none⟩ = false ∧ w.frozen? ⟨g, 2, none⟩ = false ∧ w.frozen? ⟨g, 3, none⟩ = false ∧ w.frozen? ⟨g, 4, none⟩ = false :=
  ⟨⟨M.cell (by simp [maxLen]) 0 (by simp), M.cell (by simp [maxLen]) 1 (by simp), M.cell (by simp [maxLen]) 2 (by simp), M.cell (by simp [maxLen]) 3 (by simp), M.cell (by simp [maxLen]) 4 (by simp)⟩, M.frozen (by simp [maxLen]) 0, M.frozen (by simp [maxLen]) 1, M.frozen (by simp [maxLen]) 2, M.frozen (by simp [maxLen]) 3, M.frozen (by simp [maxLen]) 4⟩
/-- a log stays where a block of an answer turns -/
theorem Lg.stay {w w' : World} {g : Nat} {m : Lm} (h : Lg w g m) (q : Nat) (T : TypeId) (B : Blk w q T [.pointer none, .bool false, .int .i64 0, .int .i64 0, .int .i64 0]) (hg : g ≠ q) (hb : ∀ k, k ≠ q → w'.heap[k]? = w.heap[k]?) : Lg w' g m := by
  obtain ⟨a, c, h1, h2, h3, h4⟩ := h
  refine ⟨a, c, by unfold Blk at *; rw [hb g hg]; exact h1, h2, h3, ?_⟩
  rcases h4 with h4 | ⟨b, off, rfl, h4⟩
  · exact .inl h4
  · by_cases hl : m.l = []
    · exact .inl hl
    · have hpos : 0 < m.l.length := List.length_pos_iff.2 hl
      have hbq : b ≠ q := by
        rintro rfl
        have h0 := h4 0 hpos
        rw [cell_of_row w b _ _ _ _ B] at h0
        have hj : off + 0 = off := rfl
        rw [hj] at h0
        have key : ∀ v : Value, v = pv m.l[0] → (∃ t u, v = .iface t u) := by
          rintro v rfl
          rcases pv_forms m.l[0] with ⟨k, e⟩ | ⟨k, s, e⟩
          · exact ⟨_, _, e⟩
          · exact ⟨_, _, e⟩
        match off, h0 with
        | 0, h0 => simp at h0; obtain ⟨t, u, e⟩ := key _ h0; cases e
        | 1, h0 => simp at h0; obtain ⟨t, u, e⟩ := key _ h0; cases e
        | 2, h0 => simp at h0; obtain ⟨t, u, e⟩ := key _ h0; cases e
        | 3, h0 => simp at h0; obtain ⟨t, u, e⟩ := key _ h0; cases e
        | 4, h0 => simp at h0; obtain ⟨t, u, e⟩ := key _ h0; cases e
        | k + 5, h0 => simp at h0
      exact .inr ⟨b, off, rfl, fun i hi => (World.cell?_of_block (w := w) (a := ⟨b, off + i, none⟩) (hb b hbq)).trans (h4 i hi)⟩
/-- what Join answers -/
def joV (p : Option Nat) (yes : Bool) (en fr bk : Int) : Value := .agg #[.pointer (p.map fun g => ⟨g, 0, none⟩), .bool yes, .int .i64 en, .int .i64 fr, .int .i64 bk]
/-- how many entries behind the place p stand there already -/
def Lm.skip (m : Lm) : Int → List Ent → Nat
  | _, [] => 0
  | p, e :: r => if m.holdsB (p + 1) e.2.1 = true then m.skip (p + 1) r + 1 else 0
theorem Lm.skip_le (m : Lm) (p : Int) (l : List Ent) : m.skip p l ≤ l.length := by
  induction l generalizing p with
  | nil => exact Nat.le_refl _
  | cons e l ih => unfold Lm.skip; split; have := ih (p + 1); simp; omega; simp
/-- how many of l lie at or below the floor -/
def Lm.low (m : Lm) (n : Int) : Nat := (m.fl - n).toNat
/-- how many of l are passed over -/
def Lm.pass (m : Lm) (n : Int) (l : List Ent) : Nat := m.low n + m.skip (n + m.low n) (l.drop (m.low n))
/-- what is left of the log, and what comes behind it -/
def Lm.joined (m : Lm) (n : Int) (l : List Ent) : Lm := (m.upto (n + m.pass n l - m.fl).toNat).with (l.drop (m.pass n l))
def Lm.fits (m : Lm) (n : Int) (l : List Ent) : Prop := (n + m.pass n l - m.fl).toNat + (l.drop (m.pass n l)).length ≤ 4096 ∧ goodB (m.upto (n + m.pass n l - m.fl).toNat).tt (l.drop (m.pass n l)) = true
def JoinR (w w' : World) (g : Nat) (m : Lm) (n t : Int) (l : List Ent) (r : Ending) : Prop :=
  (m.meetsB n t l.length = false ∧ r = .returned (joV none false 0 0 (m.back n))) ∨
  (m.meetsB n t l.length = true ∧ m.pass n l = l.length ∧ r = .returned (joV (some g) true (n + l.length) 0 0)) ∨
  (m.meetsB n t l.length = true ∧ m.pass n l < l.length ∧ ¬ m.fits n l ∧ r = .returned (joV none false 0 0 (n + m.pass n l))) ∨
  (m.meetsB n t l.length = true ∧ m.pass n l < l.length ∧ m.fits n l ∧ ∃ g', r = .returned (joV (some g') true (n + l.length) (n + m.pass n l + 1) 0) ∧ w.heap.size ≤ g' ∧ Lg w' g' (m.joined n l))
theorem EArgs.drop {w : World} {x : Addr} {l : List Ent} (h : EArgs w (some x) l) (j : Nat) : EArgs w (some (x.add (j * 3))) (l.drop j) := by
  rcases h with h | ⟨p, off, e, h⟩
  · exact .inl (by rw [h]; simp)
  · cases e
    have e2 : (⟨p, off, none⟩ : Addr).add (j * 3) = ⟨p, off + j * 3, none⟩ := by unfold Addr.add; split <;> simp_all
    refine .inr ⟨p, off + j * 3, by rw [e2], fun i hi => ?_⟩
    rw [List.length_drop] at hi
    obtain ⟨h1, h2, ⟨y, c, h3, h4⟩, h5, h6, h7⟩ := h (j + i) (by omega)
    rw [List.getElem_drop]
    have e3 : off + j * 3 + i * 3 = off + (j + i) * 3 := by omega
    exact ⟨by rw [e3]; exact h1, by rw [e3]; exact h2, ⟨y, c, by rw [e3]; exact h3, h4⟩, h5, h6, h7⟩
theorem meets_bd {m : Lm} (hw : m.Wf) {n t : Int} {c : Nat} (hc : c ≤ 140737488355328) (h : m.meetsB n t c = true) : (m.fl : Int) - c ≤ n ∧ n ≤ (m.fl : Int) + m.l.length ∧ (m.low n < c ∨ m.low n = 0) := by
  unfold Lm.low
  by_cases h1 : n < m.fl
  · have e : m.meetsB n t c = decide ((m.fl : Int) - c < n) := if_pos h1
    rw [e] at h
    have := of_decide_eq_true h
    omega
  · have e : m.meetsB n t c = m.holdsB n t := if_neg h1
    rw [e] at h
    unfold Lm.holdsB at h
    rw [Bool.and_eq_true] at h
    have := of_decide_eq_true h.1
    omega
theorem holds_has {m : Lm} {n t : Int} (h : m.holdsB n t = true) : (m.fl : Int) ≤ n ∧ n ≤ (m.fl : Int) + m.l.length := by
  unfold Lm.holdsB at h
  rw [Bool.and_eq_true] at h
  exact of_decide_eq_true h.1
set_option maxHeartbeats 400000 in
theorem enJoin_nil (n t : Int) (a : Option Addr) (len cap : Nat) (w : World) :
    Calls Try.prog 42 #[.pointer none, .int .i64 n, .int .i64 t, .slice a len cap] w fun r w' => r = .returned (joV none false 0 0 0) ∧ Below w.heap.size w w' := by
  have A1 : Below w.heap.size w (w.alloc (.cells #[.pointer none, .bool false, .int .i64 0, .int .i64 0, .int .i64 0] 78)) := (Below.refl _ _).alloc (Nat.le_refl _) _
  have B1 : Blk (w.alloc (.cells #[.pointer none, .bool false, .int .i64 0, .int .i64 0, .int .i64 0] 78)) w.heap.size 78 [.pointer none, .bool false, .int .i64 0, .int .i64 0, .int .i64 0] := Blk.new' w _ _
  obtain ⟨y0, y1, y2, y3, y4⟩ := (eblk5 B1).1
  have F : Hid _ := And.intro A1 (And.intro y0 (And.intro y1 (And.intro y2 (And.intro y3 y4))))
  clear A1 B1 y0 y1 y2 y3 y4
  go_enter Try.func42, Try.ntmps42
  go_wp2
  obtain ⟨A1, y0, y1, y2, y3, y4⟩ := F.out
  generalize w.alloc (.cells #[.pointer none, .bool false, .int .i64 0, .int .i64 0, .int .i64 0] 78) = w1 at *
  refine bodyPost_ret (v := joV none false 0 0 0) (by simp [results, Try.results42, go_sem, y0, y1, y2, y3, y4, joV]) rfl ?_
  exact ⟨rfl, A1⟩
end Go.Proofs.Ytgjcgnmomdanaaa
