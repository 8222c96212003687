/- text: what can be a key, of both. -/
import Derived.Test.YtligmiajlbjecaaDoorXTx11
import Derived.Test.YtligmiajlbjecaaDoorXTx2
namespace Go.Proofs.YtligmiajlbjecaaDoor
open Go.RowKit
set_option linter.unusedVariables false
set_option linter.unusedSimpArgs false
set_option maxRecDepth 8000

theorem mark_lo (r : Int) (w : World) (h : 0 ≤ r) (h1 : r < 128) : Calls Tryd.prog 60 #[.string ⟨#[46, 45, 43, 64, 95]⟩, .int .i32 r] w fun e w' => e = .returned (.bool (mkI r)) ∧ w = w' := by
  · refine (Tryd.strings_ContainsRune_ascii ⟨#[46, 45, 43, 64, 95]⟩ r w h h1).mono ?_
    rintro e w' ⟨rfl, rfl⟩
    refine ⟨?_, rfl⟩
    congr 2
    by_cases hm : r = 46 ∨ r = 45 ∨ r = 43 ∨ r = 64 ∨ r = 95
    · rcases hm with rfl | rfl | rfl | rfl | rfl <;> decide
    · rw [ib_no _ _ (fun b hb => ?_), show mkI r = false from decide_eq_false hm]
      · rfl
      · intro e
        apply hm
        have e2 := congrArg UInt8.toNat e
        have e3 : (r.toNat.toUInt8).toNat = r.toNat := by
          show (UInt8.ofNat r.toNat).toNat = r.toNat
          rw [UInt8.toNat_ofNat']; omega
        rw [e3] at e2
        simp at hb
        rcases hb with rfl | rfl | rfl | rfl | rfl <;> simp at e2 <;> omega
set_option maxHeartbeats 4000000 in
theorem kyChar_lo (r : Int) (w : World) (h : 0 ≤ r) (h1 : r < 128) : Calls Tryd.prog 54 #[.int .i32 r] w fun e w' => e = .returned (.bool (kyI r)) ∧ w = w' := by
  have HM : Hid _ := mark_lo r w h h1
  have hc : (65 ≤ r ∧ r ≤ 90) ∨ (97 ≤ r ∧ r ≤ 122) ∨ (48 ≤ r ∧ r ≤ 57) ∨ r < 48 ∨ (57 < r ∧ r < 65) ∨ (90 < r ∧ r < 97) ∨ 122 < r := by omega
  rcases hc with hc | hc | hc | hc | hc | hc | hc
  · have F : Hid (kyI r = true) := (decide_eq_true (by omega) : kyI r = true)
    have p0 : 65 ≤ r := by omega
    have q0 : r ≤ 90 := by omega
    have p1 : ¬ 97 ≤ r := by omega
    have q1 : r ≤ 122 := by omega
    have p2 : 48 ≤ r := by omega
    have q2 : ¬ r ≤ 57 := by omega
    clear HM hc
    go_enter Tryd.func54, Tryd.ntmps54
    go_wp2
    go_ret
    exact ⟨by first | (rw [F.out]; done) | (rw [F.out]; rfl), rfl⟩
  · have F : Hid (kyI r = true) := (decide_eq_true (by omega) : kyI r = true)
    have p0 : 65 ≤ r := by omega
    have q0 : ¬ r ≤ 90 := by omega
    have p1 : 97 ≤ r := by omega
    have q1 : r ≤ 122 := by omega
    have p2 : 48 ≤ r := by omega
    have q2 : ¬ r ≤ 57 := by omega
    clear HM hc
    go_enter Tryd.func54, Tryd.ntmps54
    go_wp2
    go_ret
    exact ⟨by first | (rw [F.out]; done) | (rw [F.out]; rfl), rfl⟩
  · have F : Hid (kyI r = true) := (decide_eq_true (by omega) : kyI r = true)
    have p0 : ¬ 65 ≤ r := by omega
    have q0 : r ≤ 90 := by omega
    have p1 : ¬ 97 ≤ r := by omega
    have q1 : r ≤ 122 := by omega
    have p2 : 48 ≤ r := by omega
    have q2 : r ≤ 57 := by omega
    clear HM hc
    go_enter Tryd.func54, Tryd.ntmps54
    go_wp2
    go_ret
    exact ⟨by first | (rw [F.out]; done) | (rw [F.out]; rfl), rfl⟩
  · have F0 : Hid (kyI r = mkI r) := (by unfold kyI mkI; congr 1; apply propext; constructor <;> omega : kyI r = mkI r)
    have p0 : ¬ 65 ≤ r := by omega
    have q0 : r ≤ 90 := by omega
    have p1 : ¬ 97 ≤ r := by omega
    have q1 : r ≤ 122 := by omega
    have p2 : ¬ 48 ≤ r := by omega
    have q2 : r ≤ 57 := by omega
    clear hc
    generalize mkI r = mb at *
    go_enter Tryd.func54, Tryd.ntmps54
    go_wp2_with fail
    refine (Calls.mono HM.out) ?_
    rintro e _ ⟨rfl, rfl⟩
    clear HM
    cases mb <;> (go_wp2; go_ret; exact ⟨by first | (rw [F0.out]; done) | (rw [F0.out]; rfl), rfl⟩)
  · have F0 : Hid (kyI r = mkI r) := (by unfold kyI mkI; congr 1; apply propext; constructor <;> omega : kyI r = mkI r)
    have p0 : ¬ 65 ≤ r := by omega
    have q0 : r ≤ 90 := by omega
    have p1 : ¬ 97 ≤ r := by omega
    have q1 : r ≤ 122 := by omega
    have p2 : 48 ≤ r := by omega
    have q2 : ¬ r ≤ 57 := by omega
    clear hc
    generalize mkI r = mb at *
    go_enter Tryd.func54, Tryd.ntmps54
    go_wp2_with fail
    refine (Calls.mono HM.out) ?_
    rintro e _ ⟨rfl, rfl⟩
    clear HM
    cases mb <;> (go_wp2; go_ret; exact ⟨by first | (rw [F0.out]; done) | (rw [F0.out]; rfl), rfl⟩)
  · have F0 : Hid (kyI r = mkI r) := (by unfold kyI mkI; congr 1; apply propext; constructor <;> omega : kyI r = mkI r)
    have p0 : 65 ≤ r := by omega
    have q0 : ¬ r ≤ 90 := by omega
    have p1 : ¬ 97 ≤ r := by omega
    have q1 : r ≤ 122 := by omega
    have p2 : 48 ≤ r := by omega
    have q2 : ¬ r ≤ 57 := by omega
    clear hc
    generalize mkI r = mb at *
    go_enter Tryd.func54, Tryd.ntmps54
    go_wp2_with fail
    refine (Calls.mono HM.out) ?_
    rintro e _ ⟨rfl, rfl⟩
    clear HM
    cases mb <;> (go_wp2; go_ret; exact ⟨by first | (rw [F0.out]; done) | (rw [F0.out]; rfl), rfl⟩)
  · have F0 : Hid (kyI r = mkI r) := (by unfold kyI mkI; congr 1; apply propext; constructor <;> omega : kyI r = mkI r)
    have p0 : 65 ≤ r := by omega
    have q0 : ¬ r ≤ 90 := by omega
    have p1 : 97 ≤ r := by omega
    have q1 : ¬ r ≤ 122 := by omega
    have p2 : 48 ≤ r := by omega
    have q2 : ¬ r ≤ 57 := by omega
    clear hc
    generalize mkI r = mb at *
    go_enter Tryd.func54, Tryd.ntmps54
    go_wp2_with fail
    refine (Calls.mono HM.out) ?_
    rintro e _ ⟨rfl, rfl⟩
    clear HM
    cases mb <;> (go_wp2; go_ret; exact ⟨by first | (rw [F0.out]; done) | (rw [F0.out]; rfl), rfl⟩)
theorem decode_rune (s : ByteArray) (i : Nat) (h : 128 ≤ (s.get! i).toNat) : (Utf8.decode s i).1 = 65533 ∨ Lib.validRune ((Utf8.decode s i).1 : Int) = true := by
  rw [← lib_valid]
  have hlt := (s.get! i).toNat_lt
  have h1 := (s.get! (i + 1)).toNat_lt
  unfold Utf8.decode
  simp only [Nat.add_zero]
  split
  · omega
  · split
    · split
      · right
        simp [Utf8.valid]
        omega
      · left; rfl
    · split
      · split
        · rename_i hh
          right
          simp only [Bool.and_eq_true] at hh
          exact hh.2
        · left; rfl
      · split
        · split
          · rename_i hh
            right
            simp only [Bool.and_eq_true] at hh
            exact hh.2
          · left; rfl
        · left; rfl
def kyC (c : UInt8) : Bool := kyI (c.toNat : Int)
/-- what can be a key -/
def keyB18 (l : List UInt8) : Bool := decide (1 ≤ l.length ∧ l.length ≤ 63) && l.all kyC
theorem key_bad {l : List UInt8} {k : Nat} (hk : k < l.length) (h : kyC (l[k]'hk) = false) : keyB18 l = false := by
  unfold keyB18
  rw [Bool.and_eq_false_iff]
  refine .inr ?_
  rw [List.all_eq_false]
  exact ⟨_, List.getElem_mem hk, by rw [h]; decide⟩
theorem key_long {l : List UInt8} (h : ¬ (1 ≤ l.length ∧ l.length ≤ 63)) : keyB18 l = false := by
  unfold keyB18
  rw [decide_eq_false h]; rfl
theorem key_good {l : List UInt8} (h : 1 ≤ l.length ∧ l.length ≤ 63) (ha : l.all kyC = true) : keyB18 l = true := by
  unfold keyB18
  rw [decide_eq_true h, ha]; rfl
theorem ky_high {r : Int} (h : 128 ≤ r) : kyI r = false := decide_eq_false (by omega)
set_option maxHeartbeats 4000000 in
theorem tKey_any (s : ByteArray) (w : World) : Calls Tryd.prog 41 #[.string s] w fun e w' => e = .returned (.bool (keyB18 s.data.toList)) ∧ Below w.heap.size w w' := by
  have hr := run_range_string (P := Tryd.prog) w 9 s Tryd.underlying9
  have hsz : s.data.toList.length = s.size := by simp
  by_cases h0 : s.size = 0
  · have F : Hid _ := key_long (l := s.data.toList) (by omega)
    have hse : s.toList.isEmpty = true := by rw [ByteArray.toList_eq, len_nil h0]; rfl
    clear hr h0
    go_enter Tryd.func41, Tryd.ntmps41
    go_wp2
    all_goals (go_ret; exact ⟨by first | (rw [F.out]; done) | (rw [F.out]; rfl), Below.refl _ _⟩)
  · have hse : s.toList.isEmpty = false := by
      rw [ByteArray.toList_eq]
      cases hh : s.data.toList with
      | nil => rw [hh] at hsz; simp at hsz; omega
      | cons a b => rfl
    by_cases hl : 63 < s.size
    · have F : Hid _ := key_long (l := s.data.toList) (by omega)
      have q : (63 : Int) < (s.size : Int) := by omega
      clear hr h0
      go_enter Tryd.func41, Tryd.ntmps41
      go_wp2
      all_goals (go_ret; exact ⟨by first | (rw [F.out]; done) | (rw [F.out]; rfl), Below.refl _ _⟩)
    · have q : ¬ (63 : Int) < (s.size : Int) := by omega
      go_enter Tryd.func41, Tryd.ntmps41
      go_wp2_with fail
      go_loopw [4] (fun _ wr => ∃ pos : Nat, pos ≤ s.size ∧ wr = w.iter s pos ∧ (s.data.toList.take pos).all kyC = true) (fun _ wr => s.size - iterPos w.heap.size wr)
      case atStart => exact ⟨0, by omega, rfl, rfl⟩
      case round =>
        obtain ⟨pos, hp, rfl, hd⟩ := hrel
        by_cases hlt : pos < s.size
        · have hc := take_snoc hlt
          have hgl := get_list hlt (by omega : pos < s.data.toList.length)
          obtain ⟨c, hcc⟩ : ∃ c, s[pos]'hlt = c := ⟨_, rfl⟩
          rw [hcc] at hc hgl
          by_cases h128 : c.toNat < 128
          · have hn := run_next_ascii (P := Tryd.prog) w s pos 0 hlt (by rw [hcc]; omega)
            rw [hcc] at hn
            have HK : Hid _ := kyChar_lo (c.toNat : Int) (w.iter s (pos + 1)) (by omega) (by omega)
            cases hv : kyI (c.toNat : Int)
            · have F : Hid _ := key_bad (l := s.data.toList) (k := pos) (by omega) (by rw [hgl]; exact hv)
              rw [hv] at HK
              clear hc hgl hcc hd h128 hv
              generalize (c.toNat : Int) = C at *
              go_wp2_with fail
              refine (Calls.mono HK.out) ?_
              rintro e wx ⟨rfl, hx⟩
              rw [← hx]
              clear hx wx HK
              go_wp2
              all_goals (go_ret; exact ⟨by first | (rw [F.out]; done) | (rw [F.out]; rfl), iter_below _ _ _⟩)
            · have F : Hid ((s.data.toList.take (pos + 1)).all kyC = true) := (by rw [hc, List.all_append, hd]; simp [kyC, hv] : (s.data.toList.take (pos + 1)).all kyC = true)
              rw [hv] at HK
              clear hc hgl hcc hd h128 hv
              generalize (c.toNat : Int) = C at *
              go_wp2_with fail
              refine (Calls.mono HK.out) ?_
              rintro e wx ⟨rfl, hx⟩
              rw [← hx]
              clear hx wx HK
              go_wp2
              go_roundw
              case rel => exact ⟨pos + 1, by omega, rfl, F.out⟩
              case measure => rw [iterPos_iter, iterPos_iter]; omega
          · have F : Hid _ := key_bad (l := s.data.toList) (k := pos) (by omega) (by rw [hgl]; exact ky_high (by omega))
            have hn := run_next_some (P := Tryd.prog) w s pos 0 hlt
            have h2 := decode_high s pos (by rw [get_at hlt, hcc]; omega)
            have h3 := decode_rune s pos (by rw [get_at hlt, hcc]; omega)
            generalize hdc : Utf8.decode s pos = dc at *
            obtain ⟨x, k⟩ := dc
            simp only at hn h2 h3
            have HK : Hid _ := kyChar_any (x : Int) (w.iter s (pos + k)) (by omega) (.inr (h3.imp (fun e => by rw [e]; rfl) id))
            rw [ky_high (r := (x : Int)) (by omega)] at HK
            clear hc hgl hcc hd h128 h2 h3 hdc
            generalize (x : Int) = C at *
            go_wp2_with fail
            refine (Calls.mono HK.out) ?_
            rintro e wx ⟨rfl, bx⟩
            have F2 : Hid _ := below_then (iter_below w s (pos + k)) bx
            clear bx HK
            go_wp2
            all_goals (go_ret; exact ⟨by first | (rw [F.out]; done) | (rw [F.out]; rfl), F2.out⟩)
        · have htk : s.data.toList.take pos = s.data.toList := List.take_of_length_le (by omega)
          rw [htk] at hd
          have F : Hid _ := key_good (l := s.data.toList) (by omega) hd
          have hn := run_next_end (P := Tryd.prog) w s pos 0 hlt
          clear hd hlt htk
          go_wp2
          all_goals (go_ret; exact ⟨by first | (rw [F.out]; done) | (rw [F.out]; rfl), iter_below _ _ _⟩)
set_option maxHeartbeats 4000000 in
theorem tCanBe_any (k v : ByteArray) (w : World) : Calls Tryd.prog 31 #[.agg #[.string k, .string v]] w fun e w' => e = .returned (.bool (keyB18 k.data.toList && valB18 v.data.toList)) ∧ Below w.heap.size w w' := by
  have N1 := Blk.new' w 59 [.string k, .string v]
  have bn : Below w.heap.size w (w.alloc (.cells #[.string k, .string v] 59)) := (Below.refl _ _).alloc (Nat.le_refl _) _
  obtain ⟨w1, hw1⟩ : ∃ w1, w1 = w.alloc (.cells #[.string k, .string v] 59) := ⟨_, rfl⟩
  rw [← hw1] at N1 bn
  have HK : Hid _ := tKey_any k w1
  have HV : Hid (∀ X, _) := fun X => tVal_any v X
  have y0 := ck_at N1 0
  have y1 := ck_at N1 1
  simp only [List.getElem?_cons_zero, List.getElem?_cons_succ] at y0 y1
  have F1 : Hid _ := And.intro bn N1
  clear bn N1
  generalize keyB18 k.data.toList = kb at *
  generalize valB18 v.data.toList = vb at *
  go_enter Tryd.func31, Tryd.ntmps31
  go_upto_region 1 with fail
  rw [← hw1]
  clear hw1
  go_wp2_with fail
  refine (Calls.mono HK.out) ?_
  rintro e w2 ⟨rfl, b2⟩
  clear HK y0 y1
  have N2 := F1.out.2.laterB b2
  have y0 := ck_at N2 0
  have y1 := ck_at N2 1
  simp only [List.getElem?_cons_zero, List.getElem?_cons_succ] at y0 y1
  have F2 : Hid _ := below_then F1.out.1 b2
  clear b2 N2 F1
  cases kb
  · go_wp2
    go_ret
    exact ⟨rfl, F2.out⟩
  · go_wp2_with fail
    refine (Calls.mono (HV.out w2)) ?_
    rintro e w3 ⟨rfl, b3⟩
    have F3 : Hid _ := below_then F2.out b3
    clear HV b3 F2 y0 y1
    go_wp2
    go_ret
    exact ⟨by simp, F3.out⟩
end Go.Proofs.YtligmiajlbjecaaDoor

/- text, the document's: what can be a key. -/
namespace Go.Proofs.YtligmiajlbjecaaDoor
open Go.RowKit
set_option linter.unusedVariables false
set_option linter.unusedSimpArgs false
set_option maxRecDepth 8000

set_option maxHeartbeats 8000000 in
theorem rKey_any (s : ByteArray) (w : World) (hbig : s.size ≤ 9223372036854775807) : Calls Tryd.prog 32 #[.string s] w fun e w' => e = .returned (.bool (keyB18 s.data.toList)) ∧ w = w' := by
  have hsz : s.data.toList.length = s.size := by simp
  go_enter Tryd.func32, Tryd.ntmps32
  go_wp2_with fail
  go_loopw [3] (fun u wr => ∃ pos : Nat, u = .int .i64 (pos : Int) ∧ pos ≤ s.size ∧ wr = w ∧ (s.data.toList.take pos).all kyC = true) (fun u _ => s.size - (intOf u).toNat)
  case atStart => exact ⟨0, rfl, by omega, rfl, rfl⟩
  case round =>
    obtain ⟨pos, rfl, hp, rfl, hd⟩ := hrel
    by_cases hlt : pos < s.size
    · have hc := take_snoc hlt
      have hgl := get_list hlt (by omega : pos < s.data.toList.length)
      obtain ⟨c, hcc⟩ : ∃ c, s[pos]'hlt = c := ⟨_, rfl⟩
      rw [hcc] at hc hgl
      have hix : ∀ W, (Instr.index 9 (.string s) (.int .i64 (pos : Int))).run Tryd.prog W = .ok (.int .u8 (c.toNat : Int)) W := fun W => by rw [← hcc]; exact ix_str s pos hlt W
      have t1 : (pos : Int) < (s.size : Int) := by omega
      have w5 : IntKind.i64.wrap ((pos : Int) + 1) = (pos : Int) + 1 := by rw [IntKind.wrap_i64]; omega
      have hc8 := c.toNat_lt
      have HG : Hid (kyI (c.toNat : Int) = true → (s.data.toList.take (pos + 1)).all kyC = true) := (fun hv => by rw [hc, List.all_append, hd]; simp [kyC, hv] : kyI (c.toNat : Int) = true → _)
      have HB : Hid (kyI (c.toNat : Int) = false → keyB18 s.data.toList = false) := (fun hv => key_bad (l := s.data.toList) (k := pos) (by omega) (by rw [hgl]; exact hv) : kyI (c.toNat : Int) = false → _)
      have hlz : Hid _ := hlt
      clear hc hgl hcc hd
      have hC : (0 : Int) ≤ (c.toNat : Int) ∧ (c.toNat : Int) ≤ 255 := by omega
      generalize (c.toNat : Int) = C at *
      have hcl : (0 ≤ C ∧ C ≤ 42) ∨ C = 43 ∨ C = 44 ∨ C = 45 ∨ C = 46 ∨ C = 47 ∨ (48 ≤ C ∧ C ≤ 57) ∨ (58 ≤ C ∧ C ≤ 63) ∨ C = 64 ∨ (65 ≤ C ∧ C ≤ 90) ∨ (91 ≤ C ∧ C ≤ 94) ∨ C = 95 ∨ C = 96 ∨ (97 ≤ C ∧ C ≤ 122) ∨ (123 ≤ C ∧ C ≤ 255) := by omega
      rcases hcl with hcl | hcl | hcl | hcl | hcl | hcl | hcl | hcl | hcl | hcl | hcl | hcl | hcl | hcl | hcl
      · have hv : kyI C = false := decide_eq_false (by omega)
        have a97 : ¬ 97 ≤ C := by omega
        have a65 : ¬ 65 ≤ C := by omega
        have a48 : ¬ 48 ≤ C := by omega
        have b122 : C ≤ 122 := by omega
        have b90 : C ≤ 90 := by omega
        have b57 : C ≤ 57 := by omega
        have e46 : (C == 46) = false := by simp; omega
        have e45 : (C == 45) = false := by simp; omega
        have e43 : (C == 43) = false := by simp; omega
        have e64 : (C == 64) = false := by simp; omega
        have e95 : (C == 95) = false := by simp; omega
        have F : Hid _ := HB.out hv
        clear HG HB hv hC hcl
        go_wp2
        all_goals (go_ret; exact ⟨by first | (rw [F.out]; done) | (rw [F.out]; rfl), rfl⟩)
      · subst hcl
        have hv : kyI 43 = true := by decide
        have F : Hid _ := HG.out hv
        clear HG HB hv hC
        go_wp2
        go_roundw
        case rel => exact ⟨pos + 1, by first | rfl | (congr 1; omega), by omega, by trivial, F.out⟩
        case measure => simp [intOf]; omega
      · subst hcl
        have hv : kyI 44 = false := by decide
        have F : Hid _ := HB.out hv
        clear HG HB hv hC
        go_wp2
        all_goals (go_ret; exact ⟨by first | (rw [F.out]; done) | (rw [F.out]; rfl), rfl⟩)
      · subst hcl
        have hv : kyI 45 = true := by decide
        have F : Hid _ := HG.out hv
        clear HG HB hv hC
        go_wp2
        go_roundw
        case rel => exact ⟨pos + 1, by first | rfl | (congr 1; omega), by omega, by trivial, F.out⟩
        case measure => simp [intOf]; omega
      · subst hcl
        have hv : kyI 46 = true := by decide
        have F : Hid _ := HG.out hv
        clear HG HB hv hC
        go_wp2
        go_roundw
        case rel => exact ⟨pos + 1, by first | rfl | (congr 1; omega), by omega, by trivial, F.out⟩
        case measure => simp [intOf]; omega
      · subst hcl
        have hv : kyI 47 = false := by decide
        have F : Hid _ := HB.out hv
        clear HG HB hv hC
        go_wp2
        all_goals (go_ret; exact ⟨by first | (rw [F.out]; done) | (rw [F.out]; rfl), rfl⟩)
      · have hv : kyI C = true := decide_eq_true (by omega)
        have a97 : ¬ 97 ≤ C := by omega
        have a65 : ¬ 65 ≤ C := by omega
        have a48 : 48 ≤ C := by omega
        have b122 : C ≤ 122 := by omega
        have b90 : C ≤ 90 := by omega
        have b57 : C ≤ 57 := by omega
        have e46 : (C == 46) = false := by simp; omega
        have e45 : (C == 45) = false := by simp; omega
        have e43 : (C == 43) = false := by simp; omega
        have e64 : (C == 64) = false := by simp; omega
        have e95 : (C == 95) = false := by simp; omega
        have F : Hid _ := HG.out hv
        clear HG HB hv hC hcl
        go_wp2
        go_roundw
        case rel => exact ⟨pos + 1, by first | rfl | (congr 1; omega), by omega, by trivial, F.out⟩
        case measure => simp [intOf]; omega
      · have hv : kyI C = false := decide_eq_false (by omega)
        have a97 : ¬ 97 ≤ C := by omega
        have a65 : ¬ 65 ≤ C := by omega
        have a48 : 48 ≤ C := by omega
        have b122 : C ≤ 122 := by omega
        have b90 : C ≤ 90 := by omega
        have b57 : ¬ C ≤ 57 := by omega
        have e46 : (C == 46) = false := by simp; omega
        have e45 : (C == 45) = false := by simp; omega
        have e43 : (C == 43) = false := by simp; omega
        have e64 : (C == 64) = false := by simp; omega
        have e95 : (C == 95) = false := by simp; omega
        have F : Hid _ := HB.out hv
        clear HG HB hv hC hcl
        go_wp2
        all_goals (go_ret; exact ⟨by first | (rw [F.out]; done) | (rw [F.out]; rfl), rfl⟩)
      · subst hcl
        have hv : kyI 64 = true := by decide
        have F : Hid _ := HG.out hv
        clear HG HB hv hC
        go_wp2
        go_roundw
        case rel => exact ⟨pos + 1, by first | rfl | (congr 1; omega), by omega, by trivial, F.out⟩
        case measure => simp [intOf]; omega
      · have hv : kyI C = true := decide_eq_true (by omega)
        have a97 : ¬ 97 ≤ C := by omega
        have a65 : 65 ≤ C := by omega
        have a48 : 48 ≤ C := by omega
        have b122 : C ≤ 122 := by omega
        have b90 : C ≤ 90 := by omega
        have b57 : ¬ C ≤ 57 := by omega
        have e46 : (C == 46) = false := by simp; omega
        have e45 : (C == 45) = false := by simp; omega
        have e43 : (C == 43) = false := by simp; omega
        have e64 : (C == 64) = false := by simp; omega
        have e95 : (C == 95) = false := by simp; omega
        have F : Hid _ := HG.out hv
        clear HG HB hv hC hcl
        go_wp2
        go_roundw
        case rel => exact ⟨pos + 1, by first | rfl | (congr 1; omega), by omega, by trivial, F.out⟩
        case measure => simp [intOf]; omega
      · have hv : kyI C = false := decide_eq_false (by omega)
        have a97 : ¬ 97 ≤ C := by omega
        have a65 : 65 ≤ C := by omega
        have a48 : 48 ≤ C := by omega
        have b122 : C ≤ 122 := by omega
        have b90 : ¬ C ≤ 90 := by omega
        have b57 : ¬ C ≤ 57 := by omega
        have e46 : (C == 46) = false := by simp; omega
        have e45 : (C == 45) = false := by simp; omega
        have e43 : (C == 43) = false := by simp; omega
        have e64 : (C == 64) = false := by simp; omega
        have e95 : (C == 95) = false := by simp; omega
        have F : Hid _ := HB.out hv
        clear HG HB hv hC hcl
        go_wp2
        all_goals (go_ret; exact ⟨by first | (rw [F.out]; done) | (rw [F.out]; rfl), rfl⟩)
      · subst hcl
        have hv : kyI 95 = true := by decide
        have F : Hid _ := HG.out hv
        clear HG HB hv hC
        go_wp2
        go_roundw
        case rel => exact ⟨pos + 1, by first | rfl | (congr 1; omega), by omega, by trivial, F.out⟩
        case measure => simp [intOf]; omega
      · subst hcl
        have hv : kyI 96 = false := by decide
        have F : Hid _ := HB.out hv
        clear HG HB hv hC
        go_wp2
        all_goals (go_ret; exact ⟨by first | (rw [F.out]; done) | (rw [F.out]; rfl), rfl⟩)
      · have hv : kyI C = true := decide_eq_true (by omega)
        have a97 : 97 ≤ C := by omega
        have a65 : 65 ≤ C := by omega
        have a48 : 48 ≤ C := by omega
        have b122 : C ≤ 122 := by omega
        have b90 : ¬ C ≤ 90 := by omega
        have b57 : ¬ C ≤ 57 := by omega
        have e46 : (C == 46) = false := by simp; omega
        have e45 : (C == 45) = false := by simp; omega
        have e43 : (C == 43) = false := by simp; omega
        have e64 : (C == 64) = false := by simp; omega
        have e95 : (C == 95) = false := by simp; omega
        have F : Hid _ := HG.out hv
        clear HG HB hv hC hcl
        go_wp2
        go_roundw
        case rel => exact ⟨pos + 1, by first | rfl | (congr 1; omega), by omega, by trivial, F.out⟩
        case measure => simp [intOf]; omega
      · have hv : kyI C = false := decide_eq_false (by omega)
        have a97 : 97 ≤ C := by omega
        have a65 : 65 ≤ C := by omega
        have a48 : 48 ≤ C := by omega
        have b122 : ¬ C ≤ 122 := by omega
        have b90 : ¬ C ≤ 90 := by omega
        have b57 : ¬ C ≤ 57 := by omega
        have e46 : (C == 46) = false := by simp; omega
        have e45 : (C == 45) = false := by simp; omega
        have e43 : (C == 43) = false := by simp; omega
        have e64 : (C == 64) = false := by simp; omega
        have e95 : (C == 95) = false := by simp; omega
        have F : Hid _ := HB.out hv
        clear HG HB hv hC hcl
        go_wp2
        all_goals (go_ret; exact ⟨by first | (rw [F.out]; done) | (rw [F.out]; rfl), rfl⟩)
    · have htk : s.data.toList.take pos = s.data.toList := List.take_of_length_le (by omega)
      rw [htk] at hd
      have t1 : ¬ (pos : Int) < (s.size : Int) := by omega
      by_cases h1 : 1 ≤ s.size
      · have t2 : (1 : Int) ≤ (s.size : Int) := by omega
        have t2' : ¬ s = ByteArray.empty := fun e => by rw [e] at h1; exact absurd h1 (by decide)
        by_cases h2 : s.size ≤ 63
        · have F : Hid _ := key_good (l := s.data.toList) (by omega) hd
          have t3 : (s.size : Int) ≤ 63 := by omega
          clear hd hlt htk h1 h2
          go_wp2
          all_goals (go_ret; exact ⟨by first | (rw [F.out]; done) | (rw [F.out]; rfl), rfl⟩)
        · have F : Hid _ := key_long (l := s.data.toList) (by omega)
          have t3 : ¬ (s.size : Int) ≤ 63 := by omega
          clear hd hlt htk h1 h2
          go_wp2
          all_goals (go_ret; exact ⟨by first | (rw [F.out]; done) | (rw [F.out]; rfl), rfl⟩)
      · have F : Hid _ := key_long (l := s.data.toList) (by omega)
        have t2 : ¬ (1 : Int) ≤ (s.size : Int) := by omega
        clear hd hlt htk h1
        go_wp2
        all_goals (go_ret; exact ⟨by first | (rw [F.out]; done) | (rw [F.out]; rfl), rfl⟩)
end Go.Proofs.YtligmiajlbjecaaDoor
