/- text, the document's: Same of pairs that are alike. -/
import Derived.Test.YtligmiajlbjecaaDoorXTxA
namespace Go.Proofs.YtligmiajlbjecaaDoor
open Go.RowKit
set_option linter.unusedVariables false
set_option linter.unusedSimpArgs false
set_option maxRecDepth 8000

theorem eqPr (a c b d : ByteArray) (w : World) : Sem.run Tryd.prog (Op.equalIn 10000 41 (.agg #[.string a, .string b]) (.agg #[.string c, .string d])) w = .ok (a.toList == c.toList && b.toList == d.toList) w := by
  have hu : Tryd.prog.underlying 9 = some .string := Tryd.underlying9
  have hpk : Tryd.prog.plainKey 9 = true := by kernel_rfl
  have hf : (Tryd.prog.fieldsOf 41).toList.map (fun f => (f.name, f.type, f.offset)) = [("Key", 9, 0), ("Val", 9, 1)] := by kernel_rfl
  rw [run_equalIn_struct w 9999 41 _ _ (by kernel_rfl) (by kernel_rfl)]
  generalize (Tryd.prog.fieldsOf 41).toList = fs at hf
  have hl2 : fs.length = 2 := by have := congrArg List.length hf; simpa using this
  obtain ⟨f0, f1, rfl⟩ : ∃ f0 f1, fs = [f0, f1] := by
    match fs, hl2 with
    | [f0, f1], _ => exact ⟨f0, f1, rfl⟩
  simp only [List.map_cons, List.map_nil, List.cons.injEq, Prod.mk.injEq, and_true] at hf
  obtain ⟨⟨n0, t0, o0⟩, n1, t1, o1⟩ := hf
  have he : ∀ a b : ByteArray, Sem.run Tryd.prog (Op.equalIn 9999 9 (.string a) (.string b)) w = .ok (a.toList == b.toList) w := fun a b => run_equalIn_string w 9998 9 a b hu
  have h0 : ∀ v0 v1 : Value, Sem.run Tryd.prog (part 9 #[v0, v1] 0) w = .ok v0 w := fun _ _ => run_part_plain w hpk rfl
  have h1 : ∀ v0 v1 : Value, Sem.run Tryd.prog (part 9 #[v0, v1] 1) w = .ok v1 w := fun _ _ => run_part_plain w hpk rfl
  simp only [Op.eqFields, n0, t0, o0, n1, t1, o1, Sem.run_bind, h0, h1, he, Result.andThen_ok, Sem.run_ite]
  cases hac : (a.toList == c.toList) <;> cases hbd : (b.toList == d.toList) <;> simp
set_option maxHeartbeats 2000000 in
theorem samePr_yes (a b : Option Addr) (ca cb : Nat) (l : List (ByteArray × ByteArray)) (w : World) (hA : GAt kRp w (.slice a l.length ca) l) (hB : GAt kRp w (.slice b l.length cb) l) (hl : l.length ≤ 140737488355328) :
    Calls Tryd.prog 15 #[.slice a l.length ca, .slice b l.length cb] w fun e w' => e = .returned (.bool true) ∧ Below w.heap.size w w' := by
  have HA : Hid _ := And.intro hA hB
  have hlI : (l.length : Int) ≤ 140737488355328 := by omega
  clear hA hB
  go_enter Tryd.func15, Tryd.ntmps15
  go_wp2_with fail
  go_loopw [5] (fun iv wr => ∃ k : Nat, iv = .int .i64 k ∧ k ≤ l.length ∧ Below w.heap.size w wr) (fun iv _ => l.length - (intOf iv).toNat)
  case atStart => exact ⟨0, rfl, Nat.zero_le _, Below.refl _ _⟩
  case round =>
    obtain ⟨k, rfl, hk, hI⟩ := hrel
    by_cases hlt : k < l.length
    · have q1 : (k : Int) < (l.length : Int) := by omega
      obtain ⟨p, off, rfl, hc⟩ := (HA.out.1).each kRp_ok k hlt
      obtain ⟨p2, off2, rfl, hd⟩ := (HA.out.2).each kRp_ok k hlt
      have hc0 := hc 0 (by simp [kRp])
      have hc1 := hc 1 (by simp [kRp])
      have hd0 := hd 0 (by simp [kRp])
      have hd1 := hd 1 (by simp [kRp])
      simp only [kRp, List.getElem?_cons_zero, List.getElem?_cons_succ, Nat.add_zero] at hc0 hc1 hd0 hd1
      generalize l[k] = x at *
      have l0 : ∀ W, Below w.heap.size w W → W.cell? ⟨p, off + k * 2, none⟩ = some (.string x.1) := fun W hW => rcell hW hc0
      have l1 : ∀ W, Below w.heap.size w W → W.cell? ⟨p, off + k * 2 + 1, none⟩ = some (.string x.2) := fun W hW => rcell hW hc1
      have m0 : ∀ W, Below w.heap.size w W → W.cell? ⟨p2, off2 + k * 2, none⟩ = some (.string x.1) := fun W hW => rcell hW hd0
      have m1 : ∀ W, Below w.heap.size w W → W.cell? ⟨p2, off2 + k * 2 + 1, none⟩ = some (.string x.2) := fun W hW => rcell hW hd1
      have HE : Hid (∀ W, _) := fun W => eqPr x.1 x.1 x.2 x.2 W
      have F : Hid _ := below_then hI (Below.refl wr.heap.size wr).drew
      clear hc hd hc0 hc1 hd0 hd1 hI
      go_wp2_with fail
      refine wp_region_held_drew (S := fun W => Below w.heap.size w W) (by kernel_rfl) (F.out) (fun hS => ?_)
      refine any_take (i := 0) (v := ?_) rfl (by kernel_rfl) (by kernel_rfl) (by kernel_rfl) (by exact fun _ _ _ h => h) (by rfl) ?_ hS ?_
      rotate_left
      · ((intro w hSw; have f0 := l0 w hSw; have f1 := l1 w hSw; have f2 := m0 w hSw; have f3 := m1 w hSw; (try dsimp only at hSw); go_simp) <;> with_reducible rfl)
      (try simp only [Act.put, List.setIfInBounds_toArray, List.set_cons_zero, List.set_cons_succ])
      refine any_take (i := 1) (v := ?_) rfl (by kernel_rfl) (by kernel_rfl) (by kernel_rfl) (by exact fun _ _ _ h => h) (by rfl) ?_ hS ?_
      rotate_left
      · ((intro w hSw; have f0 := l0 w hSw; have f1 := l1 w hSw; have f2 := m0 w hSw; have f3 := m1 w hSw; (try dsimp only at hSw); go_simp) <;> with_reducible rfl)
      (try simp only [Act.put, List.setIfInBounds_toArray, List.set_cons_zero, List.set_cons_succ])
      refine any_take (i := 2) (v := ?_) rfl (by kernel_rfl) (by kernel_rfl) (by kernel_rfl) (by exact fun _ _ _ h => h) (by rfl) ?_ hS ?_
      rotate_left
      · ((intro w hSw; have f0 := l0 w hSw; have f1 := l1 w hSw; have f2 := m0 w hSw; have f3 := m1 w hSw; (try dsimp only at hSw); go_simp) <;> with_reducible rfl)
      (try simp only [Act.put, List.setIfInBounds_toArray, List.set_cons_zero, List.set_cons_succ])
      refine any_take (i := 3) (v := ?_) rfl (by kernel_rfl) (by kernel_rfl) (by kernel_rfl) (by exact fun _ _ _ h => h) (by rfl) ?_ hS ?_
      rotate_left
      · ((intro w hSw; have f0 := l0 w hSw; have f1 := l1 w hSw; have f2 := m0 w hSw; have f3 := m1 w hSw; (try dsimp only at hSw); go_simp) <;> with_reducible rfl)
      (try simp only [Act.put, List.setIfInBounds_toArray, List.set_cons_zero, List.set_cons_succ])
      refine any_take (i := 4) (v := ?_) rfl (by kernel_rfl) (by kernel_rfl) (by kernel_rfl) (by exact fun _ _ _ h => h) (by rfl) ?_ hS ?_
      rotate_left
      · ((intro w hSw; have f0 := l0 w hSw; have f1 := l1 w hSw; have f2 := m0 w hSw; have f3 := m1 w hSw; (try dsimp only at hSw); go_simp) <;> with_reducible rfl)
      (try simp only [Act.put, List.setIfInBounds_toArray, List.set_cons_zero, List.set_cons_succ])
      refine any_take (i := 5) (v := ?_) rfl (by kernel_rfl) (by kernel_rfl) (by kernel_rfl) (by exact fun _ _ _ h => h) (by rfl) ?_ hS ?_
      rotate_left
      · ((intro w hSw; have f0 := l0 w hSw; have f1 := l1 w hSw; have f2 := m0 w hSw; have f3 := m1 w hSw; (try dsimp only at hSw); go_simp) <;> with_reducible rfl)
      (try simp only [Act.put, List.setIfInBounds_toArray, List.set_cons_zero, List.set_cons_succ])
      refine any_take (i := 6) (v := ?_) rfl (by kernel_rfl) (by kernel_rfl) (by kernel_rfl) (by exact fun _ _ _ h => h) (by rfl) ?_ hS ?_
      rotate_left
      · ((intro w hSw; have f0 := l0 w hSw; have f1 := l1 w hSw; have f2 := m0 w hSw; have f3 := m1 w hSw; (try dsimp only at hSw); go_simp) <;> with_reducible rfl)
      (try simp only [Act.put, List.setIfInBounds_toArray, List.set_cons_zero, List.set_cons_succ])
      refine any_take (i := 7) (v := ?_) rfl (by kernel_rfl) (by kernel_rfl) (by kernel_rfl) (by exact fun _ _ _ h => h) (by rfl) ?_ hS ?_
      rotate_left
      · ((intro w hSw; have f0 := l0 w hSw; have f1 := l1 w hSw; have f2 := m0 w hSw; have f3 := m1 w hSw; (try dsimp only at hSw); go_simp) <;> with_reducible rfl)
      (try simp only [Act.put, List.setIfInBounds_toArray, List.set_cons_zero, List.set_cons_succ])
      refine any_take (i := 8) (v := ?_) rfl (by kernel_rfl) (by kernel_rfl) (by kernel_rfl) (by exact fun _ _ _ h => h) (by rfl) ?_ hS ?_
      rotate_left
      · ((intro w hSw; have f4 := HE.out w; simp only [beq_self_eq_true, Bool.and_self] at f4; (try dsimp only at hSw); go_simp) <;> with_reducible rfl)
      (try simp only [Act.put, List.setIfInBounds_toArray, List.set_cons_zero, List.set_cons_succ])
      refine wpAnyH_done (by kernel_rfl) ?_ _
      clear hS l0 l1 m0 m1 HE
      go_wp2
      go_roundw
      case rel => exact ⟨k + 1, by go_num, by omega, F.out⟩
      case measure => simp [intOf]; omega
    · obtain rfl : k = l.length := by omega
      have F : Hid _ := hI
      clear hI
      go_wp2
      go_ret
      exact ⟨rfl, F.out⟩
end Go.Proofs.YtligmiajlbjecaaDoor

