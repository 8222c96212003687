/- Join of both. -/
import Derived.Test.YtgonglbgejaffaaXCpD
namespace Go.Proofs.Ytgonglbgejaffaa
open Go.RowKit Go.Shelf
set_option linter.unusedVariables false
set_option linter.unusedSimpArgs false
set_option maxRecDepth 8000

/-- the reader behind k pieces; the first error of k pieces -/
def jnM (ls : List (List (BitVec 8))) : Nat → CR
  | 0 => cr0
  | k + 1 => adM (jnM ls k) false (ls[k]?.getD [])
def jnE (ls : List (List (BitVec 8))) : Nat → Int
  | 0 => 0
  | k + 1 => if jnE ls k = 0 then adE (jnM ls k) false (ls[k]?.getD []) else jnE ls k
def jnR (ls : List (List (BitVec 8))) : Int := if jnE ls ls.length = 0 then (if whB (jnM ls ls.length) = true then 0 else 10) else jnE ls ls.length
def jnL (ls : List (List (BitVec 8))) : List (BitVec 8) := if jnR ls = 0 then whL (jnM ls ls.length) else []
theorem jnE_stay {ls : List (List (BitVec 8))} {k : Nat} (h : jnE ls k ≠ 0) (j : Nat) : jnE ls (k + j) = jnE ls k := by
  induction j with
  | zero => rfl
  | succ j ih => show (if jnE ls (k + j) = 0 then _ else jnE ls (k + j)) = _; rw [ih, if_neg h]
theorem jn_err {ls : List (List (BitVec 8))} {k : Nat} (hk : k < ls.length) (h0 : jnE ls k = 0) (hE : adE (jnM ls k) false (ls[k]?.getD []) ≠ 0) : jnR ls = adE (jnM ls k) false (ls[k]?.getD []) ∧ jnL ls = [] := by
  have h1 : jnE ls (k + 1) = adE (jnM ls k) false (ls[k]?.getD []) := by show (if jnE ls k = 0 then _ else _) = _; rw [if_pos h0]
  have h2 := jnE_stay (by rw [h1]; exact hE) (ls.length - (k + 1))
  rw [show k + 1 + (ls.length - (k + 1)) = ls.length by omega, h1] at h2
  have h3 : jnR ls = adE (jnM ls k) false (ls[k]?.getD []) := by unfold jnR; rw [h2, if_neg hE]
  exact ⟨h3, by unfold jnL; rw [h3, if_neg hE]⟩
theorem jnM_w (ls : List (List (BitVec 8))) (k : Nat) : CRw (jnM ls k) ∧ ((jnM ls k).id = 0 → (jnM ls k).ps.length = 0) ∧ (jnM ls k).ad ≤ (k : Int) := by
  induction k with
  | zero => exact ⟨cr0_w, fun _ => rfl, Int.le_refl _⟩
  | succ k ih =>
    obtain ⟨h1, h2, h3⟩ := ih
    have h4 := (adM_ad (m := jnM ls k) false (ls[k]?.getD [])).2
    exact ⟨adM_w h1 _ _, adM_z h1 h2 _ _, by show (adM _ _ _).ad ≤ _; omega⟩
theorem sargs_at {w : World} {a : Option Addr} {ls : List (List (BitVec 8))} (h : SArgs w a ls) (k : Nat) (hk : k < ls.length) : ∃ b off x c, a = some ⟨b, off, none⟩ ∧ ∀ W, Below w.heap.size w W → W.cell? ⟨b, off + k, none⟩ = some (.slice x ls[k].length c) ∧ Arg 140737488351232 W x ls[k].length c ls[k] := by
  rcases h with e | ⟨b, off, rfl, h⟩
  · rw [e] at hk; exact absurd hk (Nat.not_lt_zero _)
  · obtain ⟨x, c, h1, h2⟩ := h k hk
    refine ⟨b, off, x, c, rfl, fun W hW => ?_⟩
    obtain ⟨x', c', h3, h4⟩ := (h k hk).later hW
    have e : W.cell? ⟨b, off + k, none⟩ = some (.slice x ls[k].length c) := cell_later7 hW h1
    rw [e] at h3
    simp only [Option.some.injEq, Value.slice.injEq] at h3
    obtain ⟨rfl, -, rfl⟩ := h3
    exact ⟨e, h4⟩
set_option maxHeartbeats 8000000 in
theorem cqJoin_any (a : Option Addr) (cap : Nat) (ls : List (List (BitVec 8))) (w : World) (hS0 : SArgs w a ls) (hn : ls.length ≤ 1000) :
    Calls Try.prog 12 #[.slice a ls.length cap] w fun e w' => ∃ z, e = .returned (.tuple #[z, .int .i64 (jnR ls)]) ∧ Own w' w.heap.size z (jnL ls) ∧ Below w.heap.size w w' := by
  have HS0 : Hid _ := hS0
  clear hS0
  have N := cqNew_any w
  go_enter Try.func12, Try.ntmps12
  go_wp2_with fail
  refine N.mono ?_
  rintro r w1 ⟨rfl, hO, b1⟩
  clear N
  have Z1 : Sep w.heap.size [cqOb ⟨w.heap.size, 0, 0, [], .int .u32 0, false⟩ cr0] w1 := (Sep.nil (w := w)).fresh b1 hO (fun k hk => by
    rcases hk with hk | hk
    · rcases mem_cqW.1 hk with rfl | ⟨h0, -⟩ | ⟨h0, -⟩
      · exact Nat.le_refl _
      · exact absurd rfl h0
      · exact absurd rfl h0
    · cases hk)
  obtain ⟨g, hg⟩ : ∃ g, g = w.heap.size := ⟨_, rfl⟩
  have H1 : Hid (Sep w.heap.size [cqOb ⟨g, 0, 0, [], .int .u32 0, false⟩ cr0] w1 ∧ Below w.heap.size w w1) := ⟨by rw [hg]; exact Z1, b1⟩
  rw [← hg]
  clear Z1 b1 hO hg
  go_wp2_with fail
  go_loopw [13] (fun iv wr => ∃ (k : Nat) (p : CQl), k ≤ ls.length ∧ iv = .int .i64 k ∧ p.g = g ∧ p.cl = false ∧ jnE ls k = 0 ∧ Sep w.heap.size [cqOb p (jnM ls k)] wr ∧ Below w.heap.size w wr) (fun iv _ => ls.length - (intOf iv).toNat)
  case atStart => exact ⟨0, ⟨g, 0, 0, [], .int .u32 0, false⟩, by omega, rfl, rfl, rfl, rfl, H1.out.1, H1.out.2⟩
  case round =>
    clear H1
    obtain ⟨k, p, hk, rfl, hpg, hcl, hj, Z, hb⟩ := hrel
    have HM := jnM_w ls k
    by_cases hlt : k < ls.length
    · obtain ⟨b, off, x, c, rfl, hX⟩ := sargs_at HS0.out k hlt
      obtain ⟨hcell, hA⟩ := hX wr hb
      have q1 : (k : Int) < (ls.length : Int) := by omega
      have hle : ls[k].length ≤ 140737488351232 := by have h1 := hA.le; have h2 := hA.bound; omega
      have N := cqAdd_any x c ls[k] p (jnM ls k) wr Z.head HM.1 hA.le hA.row hA.isNil hle (by omega)
      rw [hpg, hcl] at N
      have hgk : ls[k]?.getD [] = ls[k] := by rw [List.getElem?_eq_getElem hlt]; rfl
      obtain ⟨E, hE⟩ : ∃ E, E = adE (jnM ls k) false ls[k] := ⟨_, rfl⟩
      rw [← hE] at N
      have HH : Hid _ := And.intro hpg (And.intro hcl (And.intro hj (And.intro Z (And.intro hb (And.intro hgk hE)))))
      clear hpg hcl hj Z hb hgk hE hX hA hle HM
      generalize ls[k].length = nk at *
      go_wp2_with fail
      clear hcell
      refine N.mono ?_
      rintro r w2 ⟨rfl, p2, hp2, hc2, s2⟩
      clear N
      by_cases e0 : E = 0
      · have q0 : (E == 0) = true := by rw [beq_iff_eq]; exact e0
        have F : Hid (∃ (p : CQl), p.g = g ∧ p.cl = false ∧ jnE ls (k + 1) = 0 ∧ Sep w.heap.size [cqOb p (jnM ls (k + 1))] w2 ∧ Below w.heap.size w w2) := by
          refine ⟨p2, hp2, hc2, ?_, ?_, HH.out.2.2.2.2.1.trans (HH.out.2.2.2.1.below s2)⟩
          · show (if jnE ls k = 0 then _ else _) = _
            rw [if_pos HH.out.2.2.1, HH.out.2.2.2.2.2.1, ← HH.out.2.2.2.2.2.2]; exact e0
          · show Sep _ [cqOb p2 (adM (jnM ls k) false (ls[k]?.getD []))] w2
            rw [HH.out.2.2.2.2.2.1]
            exact HH.out.2.2.2.1.step s2
        clear hp2 hc2 s2 HH e0
        go_wp2
        go_roundw
        case rel => obtain ⟨p3, f1, f2, f3, f4, f5⟩ := F.out; exact ⟨k + 1, p3, by omega, by go_num, f1, f2, f3, f4, f5⟩
        case measure => simp [intOf]; omega
      · have q0 : (E == 0) = false := by rw [beq_eq_false_iff_ne]; exact e0
        have F : Hid (jnR ls = E ∧ jnL ls = [] ∧ Below w.heap.size w w2) := by
          have h1 := jn_err hlt HH.out.2.2.1 (by rw [HH.out.2.2.2.2.2.1, ← HH.out.2.2.2.2.2.2]; exact e0)
          rw [HH.out.2.2.2.2.2.1, ← HH.out.2.2.2.2.2.2] at h1
          exact ⟨h1.1, h1.2, HH.out.2.2.2.2.1.trans (HH.out.2.2.2.1.below s2)⟩
        clear hp2 hc2 s2 HH e0
        go_wp2
        go_ret2
        rw [F.out.1, F.out.2.1]
        exact ⟨_, rfl, Own.nil _ _, F.out.2.2⟩
    · obtain rfl : k = ls.length := by omega
      have N := cqWhole_any p (jnM ls ls.length) wr Z.head HM.1.no HM.1.few (by have := HM.1.len; omega)
      rw [hpg] at N
      have HH : Hid (jnR ls = (if whB (jnM ls ls.length) = true then 0 else 10) ∧ jnL ls = (if jnR ls = 0 then whL (jnM ls ls.length) else []) ∧ Below w.heap.size w wr) := ⟨by unfold jnR; rw [if_pos hj], rfl, hb⟩
      clear hpg hcl hj Z hb HM hlt hk
      obtain ⟨ok, hok⟩ : ∃ ok, ok = whB (jnM ls ls.length) := ⟨_, rfl⟩
      rw [← hok] at N HH
      clear hok
      generalize whL (jnM ls ls.length) = wl at *
      go_wp2_with fail
      refine N.mono ?_
      rintro r w2 ⟨z, rfl, oz, b2⟩
      clear N
      cases ok with
      | true =>
        have F : Hid (jnR ls = 0 ∧ jnL ls = wl ∧ Own w2 w.heap.size z wl ∧ Below w.heap.size w w2) := by
          have h1 : jnR ls = 0 := by rw [HH.out.1]; rfl
          exact ⟨h1, by rw [HH.out.2.1, if_pos h1], oz.lower HH.out.2.2.size, below_then HH.out.2.2 b2⟩
        clear oz b2 HH
        go_wp2
        go_ret2
        rw [F.out.1, F.out.2.1]
        exact ⟨_, rfl, F.out.2.2⟩
      | false =>
        have F : Hid (jnR ls = 10 ∧ jnL ls = [] ∧ Below w.heap.size w w2) := by
          have h1 : jnR ls = 10 := by rw [HH.out.1]; rfl
          exact ⟨h1, by rw [HH.out.2.1, if_neg (by rw [h1]; decide)], below_then HH.out.2.2 b2⟩
        clear oz b2 HH
        go_wp2
        go_ret2
        rw [F.out.1, F.out.2.1]
        exact ⟨_, rfl, Own.nil _ _, F.out.2.2⟩
set_option maxHeartbeats 8000000 in
theorem rqJoin_any (a : Option Addr) (cap : Nat) (ls : List (List (BitVec 8))) (w : World) (hS0 : SArgs w a ls) (hn : ls.length ≤ 1000) :
    Calls Try.prog 13 #[.slice a ls.length cap] w fun e w' => ∃ z, e = .returned (.tuple #[z, .int .i64 (jnR ls)]) ∧ Own w' w.heap.size z (jnL ls) ∧ Below w.heap.size w w' := by
  have HS0 : Hid _ := hS0
  clear hS0
  have b1 : Below w.heap.size w (w.alloc (.cells #[.int .i64 0, .int .u32 0, .slice none 0 0, .slice none 0 0, .int .i64 0, .bool false] 41)) := (Below.refl _ _).alloc (Nat.le_refl _) _
  have Z1 : Sep w.heap.size [rqOb ⟨w.heap.size, 0, 0, [], false⟩ cr0] (w.alloc (.cells #[.int .i64 0, .int .u32 0, .slice none 0 0, .slice none 0 0, .int .i64 0, .bool false] 41)) := (Sep.nil (w := w)).fresh b1 (rq0_ok w) (fun k hk => by
    rcases hk with hk | hk
    · rcases mem_rqW.1 hk with rfl | ⟨h0, -⟩ | ⟨h0, -⟩
      · exact Nat.le_refl _
      · exact absurd rfl h0
      · exact absurd rfl h0
    · cases hk)
  obtain ⟨g, hg⟩ : ∃ g, g = w.heap.size := ⟨_, rfl⟩
  have H1 : Hid (Sep w.heap.size [rqOb ⟨g, 0, 0, [], false⟩ cr0] (w.alloc (.cells #[.int .i64 0, .int .u32 0, .slice none 0 0, .slice none 0 0, .int .i64 0, .bool false] 41)) ∧ Below w.heap.size w (w.alloc (.cells #[.int .i64 0, .int .u32 0, .slice none 0 0, .slice none 0 0, .int .i64 0, .bool false] 41))) := ⟨by rw [hg]; exact Z1, b1⟩
  clear Z1 b1
  go_enter Try.func13, Try.ntmps13
  go_upto_region 2 with fail
  rw [← hg]
  clear hg
  generalize (w.alloc (.cells #[.int .i64 0, .int .u32 0, .slice none 0 0, .slice none 0 0, .int .i64 0, .bool false] 41)) = w1 at *
  go_wp2_with fail
  go_loopw [5] (fun iv wr => ∃ (k : Nat) (p : RQl), k ≤ ls.length ∧ iv = .int .i64 k ∧ p.g = g ∧ p.cl = false ∧ jnE ls k = 0 ∧ Sep w.heap.size [rqOb p (jnM ls k)] wr ∧ Below w.heap.size w wr) (fun iv _ => ls.length - (intOf iv).toNat)
  case atStart => exact ⟨0, ⟨g, 0, 0, [], false⟩, by omega, rfl, rfl, rfl, rfl, H1.out.1, H1.out.2⟩
  case round =>
    clear H1
    obtain ⟨k, p, hk, rfl, hpg, hcl, hj, Z, hb⟩ := hrel
    have HM := jnM_w ls k
    by_cases hlt : k < ls.length
    · obtain ⟨b, off, x, c, rfl, hX⟩ := sargs_at HS0.out k hlt
      obtain ⟨hcell, hA⟩ := hX wr hb
      have q1 : (k : Int) < (ls.length : Int) := by omega
      have hle : ls[k].length ≤ 140737488351232 := by have h1 := hA.le; have h2 := hA.bound; omega
      have N := rqAdd_any x c ls[k] p (jnM ls k) wr Z.head HM.1 hA.le hA.row hA.isNil hle (by omega)
      rw [hpg, hcl] at N
      have hgk : ls[k]?.getD [] = ls[k] := by rw [List.getElem?_eq_getElem hlt]; rfl
      obtain ⟨E, hE⟩ : ∃ E, E = adE (jnM ls k) false ls[k] := ⟨_, rfl⟩
      rw [← hE] at N
      have HH : Hid _ := And.intro hpg (And.intro hcl (And.intro hj (And.intro Z (And.intro hb (And.intro hgk hE)))))
      clear hpg hcl hj Z hb hgk hE hX hA hle HM
      generalize ls[k].length = nk at *
      go_wp2_with fail
      clear hcell
      refine N.mono ?_
      rintro r w2 ⟨rfl, p2, hp2, hc2, s2⟩
      clear N
      by_cases e0 : E = 0
      · have q0 : (E == 0) = true := by rw [beq_iff_eq]; exact e0
        have F : Hid (∃ (p : RQl), p.g = g ∧ p.cl = false ∧ jnE ls (k + 1) = 0 ∧ Sep w.heap.size [rqOb p (jnM ls (k + 1))] w2 ∧ Below w.heap.size w w2) := by
          refine ⟨p2, hp2, hc2, ?_, ?_, HH.out.2.2.2.2.1.trans (HH.out.2.2.2.1.below s2)⟩
          · show (if jnE ls k = 0 then _ else _) = _
            rw [if_pos HH.out.2.2.1, HH.out.2.2.2.2.2.1, ← HH.out.2.2.2.2.2.2]; exact e0
          · show Sep _ [rqOb p2 (adM (jnM ls k) false (ls[k]?.getD []))] w2
            rw [HH.out.2.2.2.2.2.1]
            exact HH.out.2.2.2.1.step s2
        clear hp2 hc2 s2 HH e0
        go_wp2
        go_roundw
        case rel => obtain ⟨p3, f1, f2, f3, f4, f5⟩ := F.out; exact ⟨k + 1, p3, by omega, by go_num, f1, f2, f3, f4, f5⟩
        case measure => simp [intOf]; omega
      · have q0 : (E == 0) = false := by rw [beq_eq_false_iff_ne]; exact e0
        have F : Hid (jnR ls = E ∧ jnL ls = [] ∧ Below w.heap.size w w2) := by
          have h1 := jn_err hlt HH.out.2.2.1 (by rw [HH.out.2.2.2.2.2.1, ← HH.out.2.2.2.2.2.2]; exact e0)
          rw [HH.out.2.2.2.2.2.1, ← HH.out.2.2.2.2.2.2] at h1
          exact ⟨h1.1, h1.2, HH.out.2.2.2.2.1.trans (HH.out.2.2.2.1.below s2)⟩
        clear hp2 hc2 s2 HH e0
        go_wp2
        go_ret2
        rw [F.out.1, F.out.2.1]
        exact ⟨_, rfl, Own.nil _ _, F.out.2.2⟩
    · obtain rfl : k = ls.length := by omega
      have N := rqWhole_any p (jnM ls ls.length) wr Z.head HM.1 HM.2.1
      rw [hpg] at N
      have HH : Hid (jnR ls = (if whB (jnM ls ls.length) = true then 0 else 10) ∧ jnL ls = (if jnR ls = 0 then whL (jnM ls ls.length) else []) ∧ Below w.heap.size w wr) := ⟨by unfold jnR; rw [if_pos hj], rfl, hb⟩
      clear hpg hcl hj Z hb HM hlt hk
      obtain ⟨ok, hok⟩ : ∃ ok, ok = whB (jnM ls ls.length) := ⟨_, rfl⟩
      rw [← hok] at N HH
      clear hok
      generalize whL (jnM ls ls.length) = wl at *
      go_wp2_with fail
      refine N.mono ?_
      rintro r w2 ⟨z, rfl, oz, b2⟩
      clear N
      cases ok with
      | true =>
        have F : Hid (jnR ls = 0 ∧ jnL ls = wl ∧ Own w2 w.heap.size z wl ∧ Below w.heap.size w w2) := by
          have h1 : jnR ls = 0 := by rw [HH.out.1]; rfl
          exact ⟨h1, by rw [HH.out.2.1, if_pos h1], oz.lower HH.out.2.2.size, below_then HH.out.2.2 b2⟩
        clear oz b2 HH
        go_wp2
        go_ret2
        rw [F.out.1, F.out.2.1]
        exact ⟨_, rfl, F.out.2.2⟩
      | false =>
        have F : Hid (jnR ls = 10 ∧ jnL ls = [] ∧ Below w.heap.size w w2) := by
          have h1 : jnR ls = 10 := by rw [HH.out.1]; rfl
          exact ⟨h1, by rw [HH.out.2.1, if_neg (by rw [h1]; decide)], below_then HH.out.2.2 b2⟩
        clear oz b2 HH
        go_wp2
        go_ret2
        rw [F.out.1, F.out.2.1]
        exact ⟨_, rfl, Own.nil _ _, F.out.2.2⟩
end Go.Proofs.Ytgonglbgejaffaa

