/- text, the document's: what can be a key. -/
import Derived.Test.YtligmiajlbjecaaDoorXTx13
namespace Go.Proofs.YtligmiajlbjecaaDoor
open Go.RowKit
set_option linter.unusedVariables false
set_option linter.unusedSimpArgs false
set_option maxRecDepth 8000

set_option maxHeartbeats 8000000 in
theorem rKey_any (s : ByteArray) (w : World) (hbig : s.size ≤ 9223372036854775807) : Calls Tryd.prog 32 #[.string s] w fun e w' => e = .returned (.bool (keyB18 s.data.toList)) ∧ w = w' := by
  have hsz : s.data.toList.length = s.size := by simp
  go_enter Tryd.func32, Tryd.ntmps32
  go_wp2_with fail
  go_loopw [3] (fun u wr => ∃ pos : Nat, u = .int .i64 (pos : Int) ∧ pos ≤ s.size ∧ wr = w ∧ (s.data.toList.take pos).all kyC = true) (fun u _ => s.size - (intOf u).toNat)
  case atStart => exact ⟨0, rfl, by omega, rfl, rfl⟩
  case round =>
    obtain ⟨pos, rfl, hp, rfl, hd⟩ := hrel
    by_cases hlt : pos < s.size
    · have hc := take_snoc hlt
      have hgl := get_list hlt (by omega : pos < s.data.toList.length)
      obtain ⟨c, hcc⟩ : ∃ c, s[pos]'hlt = c := ⟨_, rfl⟩
      rw [hcc] at hc hgl
      have hix : ∀ W, (Instr.index 9 (.string s) (.int .i64 (pos : Int))).run Tryd.prog W = .ok (.int .u8 (c.toNat : Int)) W := fun W => by rw [← hcc]; exact ix_str s pos hlt W
      have t1 : (pos : Int) < (s.size : Int) := by omega
      have w5 : IntKind.i64.wrap ((pos : Int) + 1) = (pos : Int) + 1 := by rw [IntKind.wrap_i64]; omega
      have hc8 := c.toNat_lt
      have HG : Hid (kyI (c.toNat : Int) = true → (s.data.toList.take (pos + 1)).all kyC = true) := (fun hv => by rw [hc, List.all_append, hd]; simp [kyC, hv] : kyI (c.toNat : Int) = true → _)
      have HB : Hid (kyI (c.toNat : Int) = false → keyB18 s.data.toList = false) := (fun hv => key_bad (l := s.data.toList) (k := pos) (by omega) (by rw [hgl]; exact hv) : kyI (c.toNat : Int) = false → _)
      have hlz : Hid _ := hlt
      clear hc hgl hcc hd
      have hC : (0 : Int) ≤ (c.toNat : Int) ∧ (c.toNat : Int) ≤ 255 := by omega
      generalize (c.toNat : Int) = C at *
      have hcl : (0 ≤ C ∧ C ≤ 42) ∨ C = 43 ∨ C = 44 ∨ C = 45 ∨ C = 46 ∨ C = 47 ∨ (48 ≤ C ∧ C ≤ 57) ∨ (58 ≤ C ∧ C ≤ 63) ∨ C = 64 ∨ (65 ≤ C ∧ C ≤ 90) ∨ (91 ≤ C ∧ C ≤ 94) ∨ C = 95 ∨ C = 96 ∨ (97 ≤ C ∧ C ≤ 122) ∨ (123 ≤ C ∧ C ≤ 255) := by omega
      rcases hcl with hcl | hcl | hcl | hcl | hcl | hcl | hcl | hcl | hcl | hcl | hcl | hcl | hcl | hcl | hcl
      · have hv : kyI C = false := decide_eq_false (by omega)
        have a97 : ¬ 97 ≤ C := by omega
        have a65 : ¬ 65 ≤ C := by omega
        have a48 : ¬ 48 ≤ C := by omega
        have b122 : C ≤ 122 := by omega
        have b90 : C ≤ 90 := by omega
        have b57 : C ≤ 57 := by omega
        have e46 : (C == 46) = false := by simp; omega
        have e45 : (C == 45) = false := by simp; omega
        have e43 : (C == 43) = false := by simp; omega
        have e64 : (C == 64) = false := by simp; omega
        have e95 : (C == 95) = false := by simp; omega
        have F : Hid _ := HB.out hv
        clear HG HB hv hC hcl
        go_wp2
        all_goals (go_ret; exact ⟨by first | (rw [F.out]; done) | (rw [F.out]; rfl), rfl⟩)
      · subst hcl
        have hv : kyI 43 = true := by decide
        have F : Hid _ := HG.out hv
        clear HG HB hv hC
        go_wp2
        go_roundw
        case rel => exact ⟨pos + 1, by first | rfl | (congr 1; omega), by omega, by trivial, F.out⟩
        case measure => simp [intOf]; omega
      · subst hcl
        have hv : kyI 44 = false := by decide
        have F : Hid _ := HB.out hv
        clear HG HB hv hC
        go_wp2
        all_goals (go_ret; exact ⟨by first | (rw [F.out]; done) | (rw [F.out]; rfl), rfl⟩)
      · subst hcl
        have hv : kyI 45 = true := by decide
        have F : Hid _ := HG.out hv
        clear HG HB hv hC
        go_wp2
        go_roundw
        case rel => exact ⟨pos + 1, by first | rfl | (congr 1; omega), by omega, by trivial, F.out⟩
        case measure => simp [intOf]; omega
      · subst hcl
        have hv : kyI 46 = true := by decide
        have F : Hid _ := HG.out hv
        clear HG HB hv hC
        go_wp2
        go_roundw
        case rel => exact ⟨pos + 1, by first | rfl | (congr 1; omega), by omega, by trivial, F.out⟩
        case measure => simp [intOf]; omega
      · subst hcl
        have hv : kyI 47 = false := by decide
        have F : Hid _ := HB.out hv
        clear HG HB hv hC
        go_wp2
        all_goals (go_ret; exact ⟨by first | (rw [F.out]; done) | (rw [F.out]; rfl), rfl⟩)
      · have hv : kyI C = true := decide_eq_true (by omega)
        have a97 : ¬ 97 ≤ C := by omega
        have a65 : ¬ 65 ≤ C := by omega
        have a48 : 48 ≤ C := by omega
        have b122 : C ≤ 122 := by omega
        have b90 : C ≤ 90 := by omega
        have b57 : C ≤ 57 := by omega
        have e46 : (C == 46) = false := by simp; omega
        have e45 : (C == 45) = false := by simp; omega
        have e43 : (C == 43) = false := by simp; omega
        have e64 : (C == 64) = false := by simp; omega
        have e95 : (C == 95) = false := by simp; omega
        have F : Hid _ := HG.out hv
        clear HG HB hv hC hcl
        go_wp2
        go_roundw
        case rel => exact ⟨pos + 1, by first | rfl | (congr 1; omega), by omega, by trivial, F.out⟩
        case measure => simp [intOf]; omega
      · have hv : kyI C = false := decide_eq_false (by omega)
        have a97 : ¬ 97 ≤ C := by omega
        have a65 : ¬ 65 ≤ C := by omega
        have a48 : 48 ≤ C := by omega
        have b122 : C ≤ 122 := by omega
        have b90 : C ≤ 90 := by omega
        have b57 : ¬ C ≤ 57 := by omega
        have e46 : (C == 46) = false := by simp; omega
        have e45 : (C == 45) = false := by simp; omega
        have e43 : (C == 43) = false := by simp; omega
        have e64 : (C == 64) = false := by simp; omega
        have e95 : (C == 95) = false := by simp; omega
        have F : Hid _ := HB.out hv
        clear HG HB hv hC hcl
        go_wp2
        all_goals (go_ret; exact ⟨by first | (rw [F.out]; done) | (rw [F.out]; rfl), rfl⟩)
      · subst hcl
        have hv : kyI 64 = true := by decide
        have F : Hid _ := HG.out hv
        clear HG HB hv hC
        go_wp2
        go_roundw
        case rel => exact ⟨pos + 1, by first | rfl | (congr 1; omega), by omega, by trivial, F.out⟩
        case measure => simp [intOf]; omega
      · have hv : kyI C = true := decide_eq_true (by omega)
        have a97 : ¬ 97 ≤ C := by omega
        have a65 : 65 ≤ C := by omega
        have a48 : 48 ≤ C := by omega
        have b122 : C ≤ 122 := by omega
        have b90 : C ≤ 90 := by omega
        have b57 : ¬ C ≤ 57 := by omega
        have e46 : (C == 46) = false := by simp; omega
        have e45 : (C == 45) = false := by simp; omega
        have e43 : (C == 43) = false := by simp; omega
        have e64 : (C == 64) = false := by simp; omega
        have e95 : (C == 95) = false := by simp; omega
        have F : Hid _ := HG.out hv
        clear HG HB hv hC hcl
        go_wp2
        go_roundw
        case rel => exact ⟨pos + 1, by first | rfl | (congr 1; omega), by omega, by trivial, F.out⟩
        case measure => simp [intOf]; omega
      · have hv : kyI C = false := decide_eq_false (by omega)
        have a97 : ¬ 97 ≤ C := by omega
        have a65 : 65 ≤ C := by omega
        have a48 : 48 ≤ C := by omega
        have b122 : C ≤ 122 := by omega
        have b90 : ¬ C ≤ 90 := by omega
        have b57 : ¬ C ≤ 57 := by omega
        have e46 : (C == 46) = false := by simp; omega
        have e45 : (C == 45) = false := by simp; omega
        have e43 : (C == 43) = false := by simp; omega
        have e64 : (C == 64) = false := by simp; omega
        have e95 : (C == 95) = false := by simp; omega
        have F : Hid _ := HB.out hv
        clear HG HB hv hC hcl
        go_wp2
        all_goals (go_ret; exact ⟨by first | (rw [F.out]; done) | (rw [F.out]; rfl), rfl⟩)
      · subst hcl
        have hv : kyI 95 = true := by decide
        have F : Hid _ := HG.out hv
        clear HG HB hv hC
        go_wp2
        go_roundw
        case rel => exact ⟨pos + 1, by first | rfl | (congr 1; omega), by omega, by trivial, F.out⟩
        case measure => simp [intOf]; omega
      · subst hcl
        have hv : kyI 96 = false := by decide
        have F : Hid _ := HB.out hv
        clear HG HB hv hC
        go_wp2
        all_goals (go_ret; exact ⟨by first | (rw [F.out]; done) | (rw [F.out]; rfl), rfl⟩)
      · have hv : kyI C = true := decide_eq_true (by omega)
        have a97 : 97 ≤ C := by omega
        have a65 : 65 ≤ C := by omega
        have a48 : 48 ≤ C := by omega
        have b122 : C ≤ 122 := by omega
        have b90 : ¬ C ≤ 90 := by omega
        have b57 : ¬ C ≤ 57 := by omega
        have e46 : (C == 46) = false := by simp; omega
        have e45 : (C == 45) = false := by simp; omega
        have e43 : (C == 43) = false := by simp; omega
        have e64 : (C == 64) = false := by simp; omega
        have e95 : (C == 95) = false := by simp; omega
        have F : Hid _ := HG.out hv
        clear HG HB hv hC hcl
        go_wp2
        go_roundw
        case rel => exact ⟨pos + 1, by first | rfl | (congr 1; omega), by omega, by trivial, F.out⟩
        case measure => simp [intOf]; omega
      · have hv : kyI C = false := decide_eq_false (by omega)
        have a97 : 97 ≤ C := by omega
        have a65 : 65 ≤ C := by omega
        have a48 : 48 ≤ C := by omega
        have b122 : ¬ C ≤ 122 := by omega
        have b90 : ¬ C ≤ 90 := by omega
        have b57 : ¬ C ≤ 57 := by omega
        have e46 : (C == 46) = false := by simp; omega
        have e45 : (C == 45) = false := by simp; omega
        have e43 : (C == 43) = false := by simp; omega
        have e64 : (C == 64) = false := by simp; omega
        have e95 : (C == 95) = false := by simp; omega
        have F : Hid _ := HB.out hv
        clear HG HB hv hC hcl
        go_wp2
        all_goals (go_ret; exact ⟨by first | (rw [F.out]; done) | (rw [F.out]; rfl), rfl⟩)
    · have htk : s.data.toList.take pos = s.data.toList := List.take_of_length_le (by omega)
      rw [htk] at hd
      have t1 : ¬ (pos : Int) < (s.size : Int) := by omega
      by_cases h1 : 1 ≤ s.size
      · have t2 : (1 : Int) ≤ (s.size : Int) := by omega
        have t2' : ¬ s = ByteArray.empty := fun e => by rw [e] at h1; exact absurd h1 (by decide)
        by_cases h2 : s.size ≤ 63
        · have F : Hid _ := key_good (l := s.data.toList) (by omega) hd
          have t3 : (s.size : Int) ≤ 63 := by omega
          clear hd hlt htk h1 h2
          go_wp2
          all_goals (go_ret; exact ⟨by first | (rw [F.out]; done) | (rw [F.out]; rfl), rfl⟩)
        · have F : Hid _ := key_long (l := s.data.toList) (by omega)
          have t3 : ¬ (s.size : Int) ≤ 63 := by omega
          clear hd hlt htk h1 h2
          go_wp2
          all_goals (go_ret; exact ⟨by first | (rw [F.out]; done) | (rw [F.out]; rfl), rfl⟩)
      · have F : Hid _ := key_long (l := s.data.toList) (by omega)
        have t2 : ¬ (1 : Int) ≤ (s.size : Int) := by omega
        clear hd hlt htk h1
        go_wp2
        all_goals (go_ret; exact ⟨by first | (rw [F.out]; done) | (rw [F.out]; rfl), rfl⟩)
end Go.Proofs.YtligmiajlbjecaaDoor

