/- Whether there is a registrant; whether a key is one of them. -/
import Derived.Test.YtjokohjdpickoaaXRv7
namespace Go.Proofs.Ytjokohjdpickoaa
open Go.RowKit Go.Shelf Go.ChangeMaps
set_option linter.unusedVariables false
set_option linter.unusedSimpArgs false
set_option maxRecDepth 4000

theorem plain_u64 : Try.prog.plainKey 32 = true := by kernel_rfl
theorem cells_u64 : Try.prog.cellsOf 32 = 1 := by kernel_rfl
theorem info_u64 : (Try.prog.info? 32).map (fun i => (i.zero, i.size, i.bytes)) = some (some (.int .u64 0), 1, 8) := by kernel_rfl
theorem eqItems_ks (a b : List Int) (w : World) : ∀ (L : List Nat), (∀ i ∈ L, i < a.length ∧ i < b.length) →
    (Op.eqItems 9999 32 1 (ivs .u64 a).toArray (ivs .u64 b).toArray L).run Try.prog w = .ok (L.all (fun i => a.getD i 0 == b.getD i 0)) w
  | [], _ => rfl
  | i :: L, h => by
    obtain ⟨h1, h2⟩ := h i (by simp)
    have g1 : a[i] = a.getD i 0 := by rw [List.getD, List.getElem?_eq_getElem h1]; rfl
    have g2 : b[i] = b.getD i 0 := by rw [List.getD, List.getElem?_eq_getElem h2]; rfl
    have p1 : (part 32 (ivs .u64 a).toArray (i * 1)).run Try.prog w = .ok (.int .u64 (a.getD i 0)) w := run_part_plain w plain_u64 (by rw [Nat.mul_one, ← g1]; simpa using ivs_at .u64 a i h1)
    have p2 : (part 32 (ivs .u64 b).toArray (i * 1)).run Try.prog w = .ok (.int .u64 (b.getD i 0)) w := run_part_plain w plain_u64 (by rw [Nat.mul_one, ← g2]; simpa using ivs_at .u64 b i h2)
    have he := run_equalIn_int (P := Try.prog) w 9998 32 .u64 .u64 (a.getD i 0) (b.getD i 0) Try.underlying32
    have ih := eqItems_ks a b w L (fun j hj => h j (List.mem_cons_of_mem _ hj))
    simp only [Op.eqItems, Sem.run_bind, p1, p2, he, Result.andThen_ok, List.all_cons]
    cases e : (a.getD i 0 == b.getD i 0)
    · simp
    · simp [ih]
/-- there is a registrant -/
def anyB (m : Rs) : Bool := !((List.range 16).all (fun i => m.ks.getD i 0 == z16.getD i 0))
theorem eq_ks (a : List Int) (ha : a.length = 16) (w : World) : Sem.run Try.prog (Op.equalIn 10000 61 (.agg (ivs .u64 a).toArray) (.agg (ivs .u64 z16).toArray)) w = .ok ((List.range 16).all (fun i => a.getD i 0 == z16.getD i 0)) w := by
  obtain ⟨i, hi, -, -, -⟩ := info_parts info_u64
  rw [run_equalIn_array w 9999 (e := 32) (n := 16) (i := i) _ _ und_ks hi, cells_u64, eqItems_ks a z16 w (List.range 16) (fun i hi => by have := List.mem_range.1 hi; rw [ha]; exact ⟨this, this⟩)]
theorem anyReg_any (g : Nat) (m : Rs) (w : World) (h : (rv g m).Ok w) : Calls Try.prog 61 #[.pointer (some ⟨g, 0, none⟩)] w fun e w' => e = .returned (.bool (anyB m)) ∧ w = w' := by
  obtain ⟨hB, hW⟩ := h.holds
  have hld := load_arr size_ks und_ks hW.kl (ks_cells hW hB)
  have heq := eq_ks m.ks hW.kl w
  have H : Hid (anyB m = !((List.range 16).all (fun i => m.ks.getD i 0 == z16.getD i 0))) := rfl
  generalize ((List.range 16).all (fun i => m.ks.getD i 0 == z16.getD i 0)) = b at *
  simp only [ivs, z16, List.map_cons, List.map_nil] at heq
  have hav : av .u64 m.ks = .agg (List.map (Value.int .u64) m.ks).toArray := rfl
  rw [hav] at hld
  clear h hB hW
  go_enter Try.func61, Try.ntmps61
  go_wp2_with (refine wpList_value rfl (exec_load rfl rfl hld) ?_)
  go_ret
  exact ⟨by rw [H.out]; rfl, rfl⟩
/-- a key is one of them, from k on -/
def inB (ks : List Int) (x : Int) : Bool := ks.any (fun y => x == y)
set_option maxHeartbeats 2000000 in
theorem indexU_any (g off : Nat) (ks : List Int) (cap : Nat) (x : Int) (w : World) (hl : ks.length ≤ 1000) (hc : ∀ j (h : j < ks.length), w.cell? ⟨g, off + j, none⟩ = some (.int .u64 ks[j])) :
    Calls Try.prog 60 #[.slice (some ⟨g, off, none⟩) ks.length cap, .int .u64 x] w fun e w' => ∃ r : Int, e = .returned (.int .i64 r) ∧ (decide (r ≥ 0) = inB ks x) ∧ w = w' := by
  have HC : Hid _ := hc
  clear hc
  go_enter Try.func60, Try.ntmps60
  go_wp2_with fail
  go_loopw [8] (fun iv wr => ∃ k : Nat, k ≤ ks.length ∧ iv = .int .i64 k ∧ inB (ks.take k) x = false ∧ wr = w) (fun iv _ => ks.length - (intOf iv).toNat)
  case atStart => exact ⟨0, by omega, rfl, rfl, rfl⟩
  case round =>
    obtain ⟨k, hk, rfl, hin, hwr⟩ := hrel
    obtain rfl := hwr.symm
    by_cases hlt : k < ks.length
    · have c := HC.out k hlt
      have q : (k : Int) < (ks.length : Int) := by omega
      have ht : ks.take (k + 1) = ks.take k ++ [ks[k]] := List.take_succ_eq_append_getElem hlt
      have hmem : x = ks[k] → inB ks x = true := fun e => by
        unfold inB; rw [List.any_eq_true]; exact ⟨ks[k], List.getElem_mem hlt, by rw [e]; exact beq_self_eq_true _⟩
      have hst : ¬ x = ks[k] → inB (ks.take (k + 1)) x = false := fun e => by
        rw [ht]; unfold inB at *; rw [List.any_append, hin]; simp [e]
      generalize ks[k] = y at *
      by_cases hxy : x = y
      · have R : Hid _ := hmem hxy
        subst hxy
        clear hmem hst hin ht
        go_wp2
        go_ret
        exact ⟨(k : Int), rfl, by rw [R.out]; exact decide_eq_true (by omega), rfl⟩
      · have R : Hid _ := hst hxy
        clear hmem hst hin ht
        go_wp2
        go_roundw
        case rel => exact ⟨k + 1, by omega, by go_num, R.out, by trivial⟩
        case measure => simp [intOf]; omega
    · obtain rfl : k = ks.length := by omega
      rw [List.take_length] at hin
      have R : Hid _ := hin
      clear hin
      go_wp2
      go_ret
      exact ⟨-1, rfl, by rw [R.out]; rfl, rfl⟩
theorem containsU_any (g off : Nat) (ks : List Int) (cap : Nat) (x : Int) (w : World) (hl : ks.length ≤ 1000) (hc : ∀ j (h : j < ks.length), w.cell? ⟨g, off + j, none⟩ = some (.int .u64 ks[j])) :
    Calls Try.prog 55 #[.slice (some ⟨g, off, none⟩) ks.length cap, .int .u64 x] w fun e w' => e = .returned (.bool (inB ks x)) ∧ w = w' := by
  have HI : Hid _ := indexU_any g off ks cap x w hl hc
  clear hc
  go_enter Try.func55, Try.ntmps55
  go_wp2_with fail
  refine (Calls.mono HI.out) ?_
  rintro e _ ⟨r, rfl, hr, rfl⟩
  have R : Hid _ := hr
  clear HI hr
  go_wp2
  go_ret
  exact ⟨by rw [← R.out]; rfl, rfl⟩
end Go.Proofs.Ytjokohjdpickoaa

