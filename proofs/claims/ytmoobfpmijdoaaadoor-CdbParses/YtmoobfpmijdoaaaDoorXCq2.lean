/- cdb, the document's: a field is read, a field is put. -/
import Derived.Test.YtmoobfpmijdoaaaDoorXCq1
import Derived.Test.YtmoobfpmijdoaaaDoorXFieldRef
import Derived.Test.YtmoobfpmijdoaaaDoorXCr0
namespace Go.Proofs.YtmoobfpmijdoaaaDoor
open Go.RowKit
set_option linter.unusedVariables false
set_option linter.unusedSimpArgs false
set_option maxRecDepth 8000

theorem num_few (x : List (BitVec 8)) (h : x.length ≤ 8) : (num x).toNat < 2 ^ (8 * x.length) := by
  have := num_ltR x 0#64 0 (by simp) (by omega)
  simpa [num] using this
theorem numTo_few (l : List (BitVec 8)) (a s : Nat) (h : s ≤ 8) : (numTo l a s).toNat < 2 ^ (8 * s) := by
  unfold numTo
  have h1 : ((l.drop a).take s).length ≤ s := by rw [List.length_take]; omega
  refine Nat.lt_of_lt_of_le (num_few _ (by omega)) (Nat.pow_le_pow_right (by omega) (by omega))
theorem fv_whole (l : List (BitVec 8)) (a b : Int) (s : Nat) (hb : b = 8 * (s : Int)) (h1 : 1 ≤ s) (h2 : s ≤ 8) (hs : szB b = s) : fvB l a b = numTo l a.toNat s := by
  unfold fvB onesB
  rw [if_neg (by omega), hs]
  have hn := numTo_few l a.toNat s h2
  have e : b.toNat = 8 * s := by omega
  rw [e]
  apply BitVec.eq_of_toNat_eq
  rw [BitVec.toNat_and, BitVec.toNat_ofNat]
  have hp : 2 ^ (8 * s) ≤ 2 ^ 64 := Nat.pow_le_pow_right (by omega) (by omega)
  have hq : 1 ≤ 2 ^ (8 * s) := Nat.one_le_two_pow
  rw [Nat.mod_eq_of_lt (by omega), Nat.and_two_pow_sub_one_eq_mod, Nat.mod_eq_of_lt hn]
theorem fv_bits (l : List (BitVec 8)) (a : Int) (k : Nat) (b : Int) (hb : b = (k : Int)) (h1 : 1 ≤ k) (h2 : k ≤ 8) (hs : szB b = 1) : ((fvB l a b).toNat : Int) = ((numTo l a.toNat 1).toNat : Int) % (2 ^ k : Nat) := by
  unfold fvB onesB
  rw [if_neg (by omega), hs]
  have e : b.toNat = k := by omega
  rw [e, BitVec.toNat_and, BitVec.toNat_ofNat]
  have hp : 2 ^ k ≤ 2 ^ 8 := Nat.pow_le_pow_right (by omega) (by omega)
  have hq : 1 ≤ 2 ^ k := Nat.one_le_two_pow
  rw [Nat.mod_eq_of_lt (by omega), Nat.and_two_pow_sub_one_eq_mod]
  omega
set_option maxHeartbeats 4000000 in
theorem rget_any (a b : Int) (h : PlOk a b) (ad : Option Addr) (c : Nat) (l : List (BitVec 8)) (w : World) (hl : l.length = 16) (hr : Row w ad l) :
    Calls Tryd.prog 55 #[.slice ad 16 c, .agg #[.int .i64 a, .int .i64 (szB b : Int), .int .i64 (b % 8)]] w fun e w' => e = .returned (.int .u64 ((fvB l a b).toNat : Int)) ∧ Below w.heap.size w w' := by
  obtain ⟨A, rfl⟩ : ∃ A : Nat, a = A := ⟨a.toNat, by have := h.low; omega⟩
  have hf := h.fit
  have hbit := h.bits
  clear h
  rw [Int.toNat_natCast] at hf
  rcases hr with h0 | ⟨bk, off, rfl, hc⟩
  · rw [h0] at hl; cases hl
  rcases hbit with rfl | rfl | rfl | rfl | rfl | rfl | rfl | rfl
  · rw [show (szB 0 : Int) = 0 from rfl, show (0 : Int) % 8 = 0 from rfl]
    have Bp := Blk.new' w 93 [.int .i64 (A : Int), .int .i64 0, .int .i64 0]
    have bp : Below w.heap.size w (w.alloc (.cells #[.int .i64 (A : Int), .int .i64 0, .int .i64 0] 93)) := (Below.refl _ _).alloc (Nat.le_refl _) _
    obtain ⟨w0, hw0⟩ : ∃ w0, w0 = w.alloc (.cells #[.int .i64 (A : Int), .int .i64 0, .int .i64 0] 93) := ⟨_, rfl⟩
    rw [← hw0] at Bp bp
    have x0 := blk_at Bp 0
    have x1 := blk_at Bp 1
    have x2 := blk_at Bp 2
    simp only [List.getElem?_cons_zero, List.getElem?_cons_succ] at x0 x1 x2
    have e0 : ((fvB l (A : Int) 0).toNat : Int) = 0 := rfl
    rw [e0]
    have F : Hid _ := bp
    clear bp Bp e0 hc
    go_enter Tryd.func55, Tryd.ntmps55
    go_upto_region 1 with fail
    rw [← hw0]
    clear hw0
    go_wp2
    go_ret
    exact ⟨rfl, F.out⟩
  · rw [show (szB 1 : Int) = 1 from rfl, show (1 : Int) % 8 = 1 from rfl]
    have Bp := Blk.new' w 93 [.int .i64 (A : Int), .int .i64 1, .int .i64 1]
    have bp : Below w.heap.size w (w.alloc (.cells #[.int .i64 (A : Int), .int .i64 1, .int .i64 1] 93)) := (Below.refl _ _).alloc (Nat.le_refl _) _
    obtain ⟨w0, hw0⟩ : ∃ w0, w0 = w.alloc (.cells #[.int .i64 (A : Int), .int .i64 1, .int .i64 1] 93) := ⟨_, rfl⟩
    rw [← hw0] at Bp bp
    have x0 := blk_at Bp 0
    have x1 := blk_at Bp 1
    have x2 := blk_at Bp 2
    simp only [List.getElem?_cons_zero, List.getElem?_cons_succ] at x0 x1 x2
    have hf' : A + 1 ≤ 16 := hf
    clear hf
    have e0 : ((fvB l (A : Int) 1).toNat : Int) = ((numTo l A 1).toNat : Int) % (2 : Int) := by
      have := fv_bits l (A : Int) 1 1 rfl (by omega) (by omega) rfl
      rw [Int.toNat_natCast] at this
      exact this
    have HG : Hid _ := rGet_yes bk off 16 c l A 1 w0 hl (by omega) (fun i hi => ck_later (hc i hi) bp) (by omega) (by omega) (by omega)
    have hfew := numTo_few l A 1 (by omega)
    rw [e0]
    have F : Hid _ := bp
    clear bp Bp e0 hc hl
    generalize (numTo l A 1).toNat = N at *
    have hfew' : N < 256 := hfew
    clear hfew
    go_enter Tryd.func55, Tryd.ntmps55
    go_upto_region 1 with fail
    rw [← hw0]
    clear hw0
    go_wp2_with fail
    refine (Calls.mono HG.out) ?_
    rintro e w1 ⟨rfl, rfl⟩
    clear HG
    go_wp2
    go_ret
    refine ⟨?_, F.out⟩
    first | rfl | (congr 3; omega) | (simp [Int.tmod_eq_emod_of_nonneg]; done)
  · rw [show (szB 4 : Int) = 1 from rfl, show (4 : Int) % 8 = 4 from rfl]
    have Bp := Blk.new' w 93 [.int .i64 (A : Int), .int .i64 1, .int .i64 4]
    have bp : Below w.heap.size w (w.alloc (.cells #[.int .i64 (A : Int), .int .i64 1, .int .i64 4] 93)) := (Below.refl _ _).alloc (Nat.le_refl _) _
    obtain ⟨w0, hw0⟩ : ∃ w0, w0 = w.alloc (.cells #[.int .i64 (A : Int), .int .i64 1, .int .i64 4] 93) := ⟨_, rfl⟩
    rw [← hw0] at Bp bp
    have x0 := blk_at Bp 0
    have x1 := blk_at Bp 1
    have x2 := blk_at Bp 2
    simp only [List.getElem?_cons_zero, List.getElem?_cons_succ] at x0 x1 x2
    have hf' : A + 1 ≤ 16 := hf
    clear hf
    have e0 : ((fvB l (A : Int) 4).toNat : Int) = ((numTo l A 1).toNat : Int) % (16 : Int) := by
      have := fv_bits l (A : Int) 4 4 rfl (by omega) (by omega) rfl
      rw [Int.toNat_natCast] at this
      exact this
    have HG : Hid _ := rGet_yes bk off 16 c l A 1 w0 hl (by omega) (fun i hi => ck_later (hc i hi) bp) (by omega) (by omega) (by omega)
    have hfew := numTo_few l A 1 (by omega)
    rw [e0]
    have F : Hid _ := bp
    clear bp Bp e0 hc hl
    generalize (numTo l A 1).toNat = N at *
    have hfew' : N < 256 := hfew
    clear hfew
    go_enter Tryd.func55, Tryd.ntmps55
    go_upto_region 1 with fail
    rw [← hw0]
    clear hw0
    go_wp2_with fail
    refine (Calls.mono HG.out) ?_
    rintro e w1 ⟨rfl, rfl⟩
    clear HG
    go_wp2
    go_ret
    refine ⟨?_, F.out⟩
    first | rfl | (congr 3; omega) | (simp [Int.tmod_eq_emod_of_nonneg]; done)
  · rw [show (szB 5 : Int) = 1 from rfl, show (5 : Int) % 8 = 5 from rfl]
    have Bp := Blk.new' w 93 [.int .i64 (A : Int), .int .i64 1, .int .i64 5]
    have bp : Below w.heap.size w (w.alloc (.cells #[.int .i64 (A : Int), .int .i64 1, .int .i64 5] 93)) := (Below.refl _ _).alloc (Nat.le_refl _) _
    obtain ⟨w0, hw0⟩ : ∃ w0, w0 = w.alloc (.cells #[.int .i64 (A : Int), .int .i64 1, .int .i64 5] 93) := ⟨_, rfl⟩
    rw [← hw0] at Bp bp
    have x0 := blk_at Bp 0
    have x1 := blk_at Bp 1
    have x2 := blk_at Bp 2
    simp only [List.getElem?_cons_zero, List.getElem?_cons_succ] at x0 x1 x2
    have hf' : A + 1 ≤ 16 := hf
    clear hf
    have e0 : ((fvB l (A : Int) 5).toNat : Int) = ((numTo l A 1).toNat : Int) % (32 : Int) := by
      have := fv_bits l (A : Int) 5 5 rfl (by omega) (by omega) rfl
      rw [Int.toNat_natCast] at this
      exact this
    have HG : Hid _ := rGet_yes bk off 16 c l A 1 w0 hl (by omega) (fun i hi => ck_later (hc i hi) bp) (by omega) (by omega) (by omega)
    have hfew := numTo_few l A 1 (by omega)
    rw [e0]
    have F : Hid _ := bp
    clear bp Bp e0 hc hl
    generalize (numTo l A 1).toNat = N at *
    have hfew' : N < 256 := hfew
    clear hfew
    go_enter Tryd.func55, Tryd.ntmps55
    go_upto_region 1 with fail
    rw [← hw0]
    clear hw0
    go_wp2_with fail
    refine (Calls.mono HG.out) ?_
    rintro e w1 ⟨rfl, rfl⟩
    clear HG
    go_wp2
    go_ret
    refine ⟨?_, F.out⟩
    first | rfl | (congr 3; omega) | (simp [Int.tmod_eq_emod_of_nonneg]; done)
  · rw [show (szB 8 : Int) = 1 from rfl, show (8 : Int) % 8 = 0 from rfl]
    have Bp := Blk.new' w 93 [.int .i64 (A : Int), .int .i64 1, .int .i64 0]
    have bp : Below w.heap.size w (w.alloc (.cells #[.int .i64 (A : Int), .int .i64 1, .int .i64 0] 93)) := (Below.refl _ _).alloc (Nat.le_refl _) _
    obtain ⟨w0, hw0⟩ : ∃ w0, w0 = w.alloc (.cells #[.int .i64 (A : Int), .int .i64 1, .int .i64 0] 93) := ⟨_, rfl⟩
    rw [← hw0] at Bp bp
    have x0 := blk_at Bp 0
    have x1 := blk_at Bp 1
    have x2 := blk_at Bp 2
    simp only [List.getElem?_cons_zero, List.getElem?_cons_succ] at x0 x1 x2
    have hf' : A + 1 ≤ 16 := hf
    clear hf
    have e0 : ((fvB l (A : Int) 8).toNat : Int) = ((numTo l A 1).toNat : Int) := by
      have := fv_whole l (A : Int) 8 1 rfl (by omega) (by omega) rfl
      rw [Int.toNat_natCast] at this
      rw [this]
    have HG : Hid _ := rGet_yes bk off 16 c l A 1 w0 hl (by omega) (fun i hi => ck_later (hc i hi) bp) (by omega) (by omega) (by omega)
    have hfew := numTo_few l A 1 (by omega)
    rw [e0]
    have F : Hid _ := bp
    clear bp Bp e0 hc hl
    generalize (numTo l A 1).toNat = N at *
    have hfew' : N < 256 := hfew
    clear hfew
    go_enter Tryd.func55, Tryd.ntmps55
    go_upto_region 1 with fail
    rw [← hw0]
    clear hw0
    go_wp2_with fail
    refine (Calls.mono HG.out) ?_
    rintro e w1 ⟨rfl, rfl⟩
    clear HG
    go_wp2
    go_ret
    exact ⟨rfl, F.out⟩
  · rw [show (szB 16 : Int) = 2 from rfl, show (16 : Int) % 8 = 0 from rfl]
    have Bp := Blk.new' w 93 [.int .i64 (A : Int), .int .i64 2, .int .i64 0]
    have bp : Below w.heap.size w (w.alloc (.cells #[.int .i64 (A : Int), .int .i64 2, .int .i64 0] 93)) := (Below.refl _ _).alloc (Nat.le_refl _) _
    obtain ⟨w0, hw0⟩ : ∃ w0, w0 = w.alloc (.cells #[.int .i64 (A : Int), .int .i64 2, .int .i64 0] 93) := ⟨_, rfl⟩
    rw [← hw0] at Bp bp
    have x0 := blk_at Bp 0
    have x1 := blk_at Bp 1
    have x2 := blk_at Bp 2
    simp only [List.getElem?_cons_zero, List.getElem?_cons_succ] at x0 x1 x2
    have hf' : A + 2 ≤ 16 := hf
    clear hf
    have e0 : ((fvB l (A : Int) 16).toNat : Int) = ((numTo l A 2).toNat : Int) := by
      have := fv_whole l (A : Int) 16 2 rfl (by omega) (by omega) rfl
      rw [Int.toNat_natCast] at this
      rw [this]
    have HG : Hid _ := rGet_yes bk off 16 c l A 2 w0 hl (by omega) (fun i hi => ck_later (hc i hi) bp) (by omega) (by omega) (by omega)
    have hfew := numTo_few l A 2 (by omega)
    rw [e0]
    have F : Hid _ := bp
    clear bp Bp e0 hc hl
    generalize (numTo l A 2).toNat = N at *
    have hfew' : N < 65536 := hfew
    clear hfew
    go_enter Tryd.func55, Tryd.ntmps55
    go_upto_region 1 with fail
    rw [← hw0]
    clear hw0
    go_wp2_with fail
    refine (Calls.mono HG.out) ?_
    rintro e w1 ⟨rfl, rfl⟩
    clear HG
    go_wp2
    go_ret
    exact ⟨rfl, F.out⟩
  · rw [show (szB 32 : Int) = 4 from rfl, show (32 : Int) % 8 = 0 from rfl]
    have Bp := Blk.new' w 93 [.int .i64 (A : Int), .int .i64 4, .int .i64 0]
    have bp : Below w.heap.size w (w.alloc (.cells #[.int .i64 (A : Int), .int .i64 4, .int .i64 0] 93)) := (Below.refl _ _).alloc (Nat.le_refl _) _
    obtain ⟨w0, hw0⟩ : ∃ w0, w0 = w.alloc (.cells #[.int .i64 (A : Int), .int .i64 4, .int .i64 0] 93) := ⟨_, rfl⟩
    rw [← hw0] at Bp bp
    have x0 := blk_at Bp 0
    have x1 := blk_at Bp 1
    have x2 := blk_at Bp 2
    simp only [List.getElem?_cons_zero, List.getElem?_cons_succ] at x0 x1 x2
    have hf' : A + 4 ≤ 16 := hf
    clear hf
    have e0 : ((fvB l (A : Int) 32).toNat : Int) = ((numTo l A 4).toNat : Int) := by
      have := fv_whole l (A : Int) 32 4 rfl (by omega) (by omega) rfl
      rw [Int.toNat_natCast] at this
      rw [this]
    have HG : Hid _ := rGet_yes bk off 16 c l A 4 w0 hl (by omega) (fun i hi => ck_later (hc i hi) bp) (by omega) (by omega) (by omega)
    have hfew := numTo_few l A 4 (by omega)
    rw [e0]
    have F : Hid _ := bp
    clear bp Bp e0 hc hl
    generalize (numTo l A 4).toNat = N at *
    have hfew' : N < 4294967296 := hfew
    clear hfew
    go_enter Tryd.func55, Tryd.ntmps55
    go_upto_region 1 with fail
    rw [← hw0]
    clear hw0
    go_wp2_with fail
    refine (Calls.mono HG.out) ?_
    rintro e w1 ⟨rfl, rfl⟩
    clear HG
    go_wp2
    go_ret
    exact ⟨rfl, F.out⟩
  · rw [show (szB 64 : Int) = 8 from rfl, show (64 : Int) % 8 = 0 from rfl]
    have Bp := Blk.new' w 93 [.int .i64 (A : Int), .int .i64 8, .int .i64 0]
    have bp : Below w.heap.size w (w.alloc (.cells #[.int .i64 (A : Int), .int .i64 8, .int .i64 0] 93)) := (Below.refl _ _).alloc (Nat.le_refl _) _
    obtain ⟨w0, hw0⟩ : ∃ w0, w0 = w.alloc (.cells #[.int .i64 (A : Int), .int .i64 8, .int .i64 0] 93) := ⟨_, rfl⟩
    rw [← hw0] at Bp bp
    have x0 := blk_at Bp 0
    have x1 := blk_at Bp 1
    have x2 := blk_at Bp 2
    simp only [List.getElem?_cons_zero, List.getElem?_cons_succ] at x0 x1 x2
    have hf' : A + 8 ≤ 16 := hf
    clear hf
    have e0 : ((fvB l (A : Int) 64).toNat : Int) = ((numTo l A 8).toNat : Int) := by
      have := fv_whole l (A : Int) 64 8 rfl (by omega) (by omega) rfl
      rw [Int.toNat_natCast] at this
      rw [this]
    have HG : Hid _ := rGet_yes bk off 16 c l A 8 w0 hl (by omega) (fun i hi => ck_later (hc i hi) bp) (by omega) (by omega) (by omega)
    have hfew := numTo_few l A 8 (by omega)
    rw [e0]
    have F : Hid _ := bp
    clear bp Bp e0 hc hl
    generalize (numTo l A 8).toNat = N at *
    have hfew' : N < 18446744073709551616 := hfew
    clear hfew
    go_enter Tryd.func55, Tryd.ntmps55
    go_upto_region 1 with fail
    rw [← hw0]
    clear hw0
    go_wp2_with fail
    refine (Calls.mono HG.out) ?_
    rintro e w1 ⟨rfl, rfl⟩
    clear HG
    go_wp2
    go_ret
    exact ⟨rfl, F.out⟩
set_option maxHeartbeats 4000000 in
theorem rput_none (a : Int) (ad : Option Addr) (c : Nat) (w : World) :
    Calls Tryd.prog 70 #[.slice ad 16 c, .agg #[.int .i64 a, .int .i64 0, .int .i64 0], .int .u64 0] w fun e w' => e = .returned (.tuple #[.slice ad 16 c, .int .i64 0]) ∧ Below w.heap.size w w' := by
  have Bp := Blk.new' w 93 [.int .i64 a, .int .i64 0, .int .i64 0]
  have bp : Below w.heap.size w (w.alloc (.cells #[.int .i64 a, .int .i64 0, .int .i64 0] 93)) := (Below.refl _ _).alloc (Nat.le_refl _) _
  obtain ⟨w0, hw0⟩ : ∃ w0, w0 = w.alloc (.cells #[.int .i64 a, .int .i64 0, .int .i64 0] 93) := ⟨_, rfl⟩
  rw [← hw0] at Bp bp
  have x0 := blk_at Bp 0
  have x1 := blk_at Bp 1
  have x2 := blk_at Bp 2
  simp only [List.getElem?_cons_zero, List.getElem?_cons_succ] at x0 x1 x2
  have F : Hid _ := bp
  clear bp Bp
  go_enter Tryd.func70, Tryd.ntmps70
  go_upto_region 1 with fail
  rw [← hw0]
  clear hw0
  go_wp2
  refine bodyPost_ret (v := .tuple #[.slice ad 16 c, .int .i64 0]) (by first | rfl | simp [results, Tryd.results70, go_sem]) rfl ?_
  exact ⟨rfl, F.out⟩
set_option maxHeartbeats 4000000 in
theorem rput_yes (a b : Int) (h : PlOk a b) (h0 : b ≠ 0) (x : BitVec 64) (hx : tkB b x = true) (ad : Option Addr) (c : Nat) (l : List (BitVec 8)) (w : World) (hl : l.length = 16) (hle : 16 ≤ c) (hr : Row w ad l) (hn : ad = none → c = 0) :
    Calls Tryd.prog 70 #[.slice ad 16 c, .agg #[.int .i64 a, .int .i64 (szB b : Int), .int .i64 (b % 8)], .int .u64 (x.toNat : Int)] w fun e w' => ∃ z, e = .returned (.tuple #[z, .int .i64 0]) ∧ Own w' w.heap.size z (layF l a b x) ∧ Below w.heap.size w w' := by
  obtain ⟨A, rfl⟩ : ∃ A : Nat, a = A := ⟨a.toNat, by have := h.low; omega⟩
  have hf := h.fit
  have hbit := h.bits
  have hft := tkB_fits h h0 hx
  clear h
  rw [Int.toNat_natCast] at hf
  unfold tkB at hx
  have hx' := of_decide_eq_true hx
  clear hx
  rcases hbit with rfl | rfl | rfl | rfl | rfl | rfl | rfl | rfl
  · exact absurd rfl h0
  · rw [show (szB 1 : Int) = 1 from rfl, show (1 : Int) % 8 = 1 from rfl]
    have Bp := Blk.new' w 93 [.int .i64 (A : Int), .int .i64 1, .int .i64 1]
    have bp : Below w.heap.size w (w.alloc (.cells #[.int .i64 (A : Int), .int .i64 1, .int .i64 1] 93)) := (Below.refl _ _).alloc (Nat.le_refl _) _
    obtain ⟨w0, hw0⟩ : ∃ w0, w0 = w.alloc (.cells #[.int .i64 (A : Int), .int .i64 1, .int .i64 1] 93) := ⟨_, rfl⟩
    rw [← hw0] at Bp bp
    have x0 := blk_at Bp 0
    have x1 := blk_at Bp 1
    have x2 := blk_at Bp 2
    simp only [List.getElem?_cons_zero, List.getElem?_cons_succ] at x0 x1 x2
    have hf' : A + 1 ≤ 16 := hf
    clear hf h0
    have e0 : layF l (A : Int) 1 x = over l A (be 1 x) := rfl
    have hxx : x.toNat ≤ 1 := hx'
    clear hx'
    have HP : Hid _ := rPut_yes ad 16 c l A 1 x w0 hl hle (hr.later bp) hn (by omega) (by omega) (by omega) (by omega) hft
    have F : Hid _ := And.intro bp e0
    clear bp Bp e0 hr hft hn
    have hxi : (x.toNat : Int) < 2 := by omega
    generalize (x.toNat : Int) = X at *
    go_enter Tryd.func70, Tryd.ntmps70
    go_upto_region 1 with fail
    rw [← hw0]
    clear hw0
    go_wp2_with fail
    refine (Calls.mono HP.out) ?_
    rintro e w1 ⟨z, rfl, o1, b1⟩
    have F1 : Hid _ := And.intro o1 (below_then F.out.1 b1)
    clear HP o1 b1
    go_wp2
    refine bodyPost_ret (v := .tuple #[z, .int .i64 0]) (by first | rfl | simp [results, Tryd.results70, go_sem]) rfl ?_
    exact ⟨z, rfl, by rw [F.out.2]; exact Own.lower F1.out.1 F.out.1.size, F1.out.2⟩
  · rw [show (szB 4 : Int) = 1 from rfl, show (4 : Int) % 8 = 4 from rfl]
    have Bp := Blk.new' w 93 [.int .i64 (A : Int), .int .i64 1, .int .i64 4]
    have bp : Below w.heap.size w (w.alloc (.cells #[.int .i64 (A : Int), .int .i64 1, .int .i64 4] 93)) := (Below.refl _ _).alloc (Nat.le_refl _) _
    obtain ⟨w0, hw0⟩ : ∃ w0, w0 = w.alloc (.cells #[.int .i64 (A : Int), .int .i64 1, .int .i64 4] 93) := ⟨_, rfl⟩
    rw [← hw0] at Bp bp
    have x0 := blk_at Bp 0
    have x1 := blk_at Bp 1
    have x2 := blk_at Bp 2
    simp only [List.getElem?_cons_zero, List.getElem?_cons_succ] at x0 x1 x2
    have hf' : A + 1 ≤ 16 := hf
    clear hf h0
    have e0 : layF l (A : Int) 4 x = over l A (be 1 x) := rfl
    have hxx : x.toNat ≤ 15 := hx'
    clear hx'
    have HP : Hid _ := rPut_yes ad 16 c l A 1 x w0 hl hle (hr.later bp) hn (by omega) (by omega) (by omega) (by omega) hft
    have F : Hid _ := And.intro bp e0
    clear bp Bp e0 hr hft hn
    have hxi : (x.toNat : Int) < 16 := by omega
    generalize (x.toNat : Int) = X at *
    go_enter Tryd.func70, Tryd.ntmps70
    go_upto_region 1 with fail
    rw [← hw0]
    clear hw0
    go_wp2_with fail
    refine (Calls.mono HP.out) ?_
    rintro e w1 ⟨z, rfl, o1, b1⟩
    have F1 : Hid _ := And.intro o1 (below_then F.out.1 b1)
    clear HP o1 b1
    go_wp2
    refine bodyPost_ret (v := .tuple #[z, .int .i64 0]) (by first | rfl | simp [results, Tryd.results70, go_sem]) rfl ?_
    exact ⟨z, rfl, by rw [F.out.2]; exact Own.lower F1.out.1 F.out.1.size, F1.out.2⟩
  · rw [show (szB 5 : Int) = 1 from rfl, show (5 : Int) % 8 = 5 from rfl]
    have Bp := Blk.new' w 93 [.int .i64 (A : Int), .int .i64 1, .int .i64 5]
    have bp : Below w.heap.size w (w.alloc (.cells #[.int .i64 (A : Int), .int .i64 1, .int .i64 5] 93)) := (Below.refl _ _).alloc (Nat.le_refl _) _
    obtain ⟨w0, hw0⟩ : ∃ w0, w0 = w.alloc (.cells #[.int .i64 (A : Int), .int .i64 1, .int .i64 5] 93) := ⟨_, rfl⟩
    rw [← hw0] at Bp bp
    have x0 := blk_at Bp 0
    have x1 := blk_at Bp 1
    have x2 := blk_at Bp 2
    simp only [List.getElem?_cons_zero, List.getElem?_cons_succ] at x0 x1 x2
    have hf' : A + 1 ≤ 16 := hf
    clear hf h0
    have e0 : layF l (A : Int) 5 x = over l A (be 1 x) := rfl
    have hxx : x.toNat ≤ 31 := hx'
    clear hx'
    have HP : Hid _ := rPut_yes ad 16 c l A 1 x w0 hl hle (hr.later bp) hn (by omega) (by omega) (by omega) (by omega) hft
    have F : Hid _ := And.intro bp e0
    clear bp Bp e0 hr hft hn
    have hxi : (x.toNat : Int) < 32 := by omega
    generalize (x.toNat : Int) = X at *
    go_enter Tryd.func70, Tryd.ntmps70
    go_upto_region 1 with fail
    rw [← hw0]
    clear hw0
    go_wp2_with fail
    refine (Calls.mono HP.out) ?_
    rintro e w1 ⟨z, rfl, o1, b1⟩
    have F1 : Hid _ := And.intro o1 (below_then F.out.1 b1)
    clear HP o1 b1
    go_wp2
    refine bodyPost_ret (v := .tuple #[z, .int .i64 0]) (by first | rfl | simp [results, Tryd.results70, go_sem]) rfl ?_
    exact ⟨z, rfl, by rw [F.out.2]; exact Own.lower F1.out.1 F.out.1.size, F1.out.2⟩
  · rw [show (szB 8 : Int) = 1 from rfl, show (8 : Int) % 8 = 0 from rfl]
    have Bp := Blk.new' w 93 [.int .i64 (A : Int), .int .i64 1, .int .i64 0]
    have bp : Below w.heap.size w (w.alloc (.cells #[.int .i64 (A : Int), .int .i64 1, .int .i64 0] 93)) := (Below.refl _ _).alloc (Nat.le_refl _) _
    obtain ⟨w0, hw0⟩ : ∃ w0, w0 = w.alloc (.cells #[.int .i64 (A : Int), .int .i64 1, .int .i64 0] 93) := ⟨_, rfl⟩
    rw [← hw0] at Bp bp
    have x0 := blk_at Bp 0
    have x1 := blk_at Bp 1
    have x2 := blk_at Bp 2
    simp only [List.getElem?_cons_zero, List.getElem?_cons_succ] at x0 x1 x2
    have hf' : A + 1 ≤ 16 := hf
    clear hf h0
    have e0 : layF l (A : Int) 8 x = over l A (be 1 x) := rfl
    have hxx : x.toNat ≤ 255 := hx'
    clear hx'
    have HP : Hid _ := rPut_yes ad 16 c l A 1 x w0 hl hle (hr.later bp) hn (by omega) (by omega) (by omega) (by omega) hft
    have F : Hid _ := And.intro bp e0
    clear bp Bp e0 hr hft hn
    skip
    generalize (x.toNat : Int) = X at *
    go_enter Tryd.func70, Tryd.ntmps70
    go_upto_region 1 with fail
    rw [← hw0]
    clear hw0
    go_wp2_with fail
    refine (Calls.mono HP.out) ?_
    rintro e w1 ⟨z, rfl, o1, b1⟩
    have F1 : Hid _ := And.intro o1 (below_then F.out.1 b1)
    clear HP o1 b1
    go_wp2
    refine bodyPost_ret (v := .tuple #[z, .int .i64 0]) (by first | rfl | simp [results, Tryd.results70, go_sem]) rfl ?_
    exact ⟨z, rfl, by rw [F.out.2]; exact Own.lower F1.out.1 F.out.1.size, F1.out.2⟩
  · rw [show (szB 16 : Int) = 2 from rfl, show (16 : Int) % 8 = 0 from rfl]
    have Bp := Blk.new' w 93 [.int .i64 (A : Int), .int .i64 2, .int .i64 0]
    have bp : Below w.heap.size w (w.alloc (.cells #[.int .i64 (A : Int), .int .i64 2, .int .i64 0] 93)) := (Below.refl _ _).alloc (Nat.le_refl _) _
    obtain ⟨w0, hw0⟩ : ∃ w0, w0 = w.alloc (.cells #[.int .i64 (A : Int), .int .i64 2, .int .i64 0] 93) := ⟨_, rfl⟩
    rw [← hw0] at Bp bp
    have x0 := blk_at Bp 0
    have x1 := blk_at Bp 1
    have x2 := blk_at Bp 2
    simp only [List.getElem?_cons_zero, List.getElem?_cons_succ] at x0 x1 x2
    have hf' : A + 2 ≤ 16 := hf
    clear hf h0
    have e0 : layF l (A : Int) 16 x = over l A (be 2 x) := rfl
    have hxx : x.toNat ≤ 65535 := hx'
    clear hx'
    have HP : Hid _ := rPut_yes ad 16 c l A 2 x w0 hl hle (hr.later bp) hn (by omega) (by omega) (by omega) (by omega) hft
    have F : Hid _ := And.intro bp e0
    clear bp Bp e0 hr hft hn
    skip
    generalize (x.toNat : Int) = X at *
    go_enter Tryd.func70, Tryd.ntmps70
    go_upto_region 1 with fail
    rw [← hw0]
    clear hw0
    go_wp2_with fail
    refine (Calls.mono HP.out) ?_
    rintro e w1 ⟨z, rfl, o1, b1⟩
    have F1 : Hid _ := And.intro o1 (below_then F.out.1 b1)
    clear HP o1 b1
    go_wp2
    refine bodyPost_ret (v := .tuple #[z, .int .i64 0]) (by first | rfl | simp [results, Tryd.results70, go_sem]) rfl ?_
    exact ⟨z, rfl, by rw [F.out.2]; exact Own.lower F1.out.1 F.out.1.size, F1.out.2⟩
  · rw [show (szB 32 : Int) = 4 from rfl, show (32 : Int) % 8 = 0 from rfl]
    have Bp := Blk.new' w 93 [.int .i64 (A : Int), .int .i64 4, .int .i64 0]
    have bp : Below w.heap.size w (w.alloc (.cells #[.int .i64 (A : Int), .int .i64 4, .int .i64 0] 93)) := (Below.refl _ _).alloc (Nat.le_refl _) _
    obtain ⟨w0, hw0⟩ : ∃ w0, w0 = w.alloc (.cells #[.int .i64 (A : Int), .int .i64 4, .int .i64 0] 93) := ⟨_, rfl⟩
    rw [← hw0] at Bp bp
    have x0 := blk_at Bp 0
    have x1 := blk_at Bp 1
    have x2 := blk_at Bp 2
    simp only [List.getElem?_cons_zero, List.getElem?_cons_succ] at x0 x1 x2
    have hf' : A + 4 ≤ 16 := hf
    clear hf h0
    have e0 : layF l (A : Int) 32 x = over l A (be 4 x) := rfl
    have hxx : x.toNat ≤ 4294967295 := hx'
    clear hx'
    have HP : Hid _ := rPut_yes ad 16 c l A 4 x w0 hl hle (hr.later bp) hn (by omega) (by omega) (by omega) (by omega) hft
    have F : Hid _ := And.intro bp e0
    clear bp Bp e0 hr hft hn
    skip
    generalize (x.toNat : Int) = X at *
    go_enter Tryd.func70, Tryd.ntmps70
    go_upto_region 1 with fail
    rw [← hw0]
    clear hw0
    go_wp2_with fail
    refine (Calls.mono HP.out) ?_
    rintro e w1 ⟨z, rfl, o1, b1⟩
    have F1 : Hid _ := And.intro o1 (below_then F.out.1 b1)
    clear HP o1 b1
    go_wp2
    refine bodyPost_ret (v := .tuple #[z, .int .i64 0]) (by first | rfl | simp [results, Tryd.results70, go_sem]) rfl ?_
    exact ⟨z, rfl, by rw [F.out.2]; exact Own.lower F1.out.1 F.out.1.size, F1.out.2⟩
  · rw [show (szB 64 : Int) = 8 from rfl, show (64 : Int) % 8 = 0 from rfl]
    have Bp := Blk.new' w 93 [.int .i64 (A : Int), .int .i64 8, .int .i64 0]
    have bp : Below w.heap.size w (w.alloc (.cells #[.int .i64 (A : Int), .int .i64 8, .int .i64 0] 93)) := (Below.refl _ _).alloc (Nat.le_refl _) _
    obtain ⟨w0, hw0⟩ : ∃ w0, w0 = w.alloc (.cells #[.int .i64 (A : Int), .int .i64 8, .int .i64 0] 93) := ⟨_, rfl⟩
    rw [← hw0] at Bp bp
    have x0 := blk_at Bp 0
    have x1 := blk_at Bp 1
    have x2 := blk_at Bp 2
    simp only [List.getElem?_cons_zero, List.getElem?_cons_succ] at x0 x1 x2
    have hf' : A + 8 ≤ 16 := hf
    clear hf h0
    have e0 : layF l (A : Int) 64 x = over l A (be 8 x) := rfl
    have hxx : x.toNat ≤ 18446744073709551615 := hx'
    clear hx'
    have HP : Hid _ := rPut_yes ad 16 c l A 8 x w0 hl hle (hr.later bp) hn (by omega) (by omega) (by omega) (by omega) hft
    have F : Hid _ := And.intro bp e0
    clear bp Bp e0 hr hft hn
    skip
    generalize (x.toNat : Int) = X at *
    go_enter Tryd.func70, Tryd.ntmps70
    go_upto_region 1 with fail
    rw [← hw0]
    clear hw0
    go_wp2_with fail
    refine (Calls.mono HP.out) ?_
    rintro e w1 ⟨z, rfl, o1, b1⟩
    have F1 : Hid _ := And.intro o1 (below_then F.out.1 b1)
    clear HP o1 b1
    go_wp2
    refine bodyPost_ret (v := .tuple #[z, .int .i64 0]) (by first | rfl | simp [results, Tryd.results70, go_sem]) rfl ?_
    exact ⟨z, rfl, by rw [F.out.2]; exact Own.lower F1.out.1 F.out.1.size, F1.out.2⟩
end Go.Proofs.YtmoobfpmijdoaaaDoor

