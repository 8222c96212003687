/- sense: Cut, the program's and the document's. -/
import Derived.Test.YthgiifeifinngaaSe8
namespace Go.Proofs.Ythgiifeifinngaa
open Go.RowKit
set_option linter.unusedVariables false
set_option linter.unusedSimpArgs false
set_option maxRecDepth 4000

theorem row_front {w : World} {a : Option Addr} {l m : List (BitVec 8)} (h : Row w a (l ++ m)) : Row w a l := by
  rcases h with h | ⟨b, off, rfl, hc⟩
  · exact .inl (List.append_eq_nil_iff.1 h).1
  · refine .inr ⟨b, off, rfl, fun i hi => ?_⟩
    rw [hc i (by rw [List.length_append]; omega)]
    unfold bt
    rw [List.getD_eq_getElem?_getD, List.getD_eq_getElem?_getD, List.getElem?_append_left hi]
theorem row_take {w : World} {a : Option Addr} {l : List (BitVec 8)} (h : Row w a l) (k : Nat) : Row w a (l.take k) := by
  rw [← List.take_append_drop k l] at h
  exact row_front h
/-- how many bytes a Cut leaves -/
def cutK (n : Int) (len : Nat) : Nat := (max 0 (min n (len : Int))).toNat
theorem cutK_le (n : Int) (len : Nat) : cutK n len ≤ len := by unfold cutK; omega
theorem take_more1 (l : List (BitVec 8)) (k : Nat) (h : k < l.length) : l.take (k + 1) = l.take k ++ [l.getD k 0#8] := by
  rw [List.take_succ_eq_append_getElem h, List.getD_eq_getElem?_getD, List.getElem?_eq_getElem h]; rfl
set_option maxHeartbeats 1000000 in
theorem cut_any (a : Option Addr) (cap : Nat) (l : List (BitVec 8)) (n : Int) (w : World) (hr : Row w a l) (hle : l.length ≤ cap) (hn : a = none → cap = 0) (hlen : l.length ≤ 140737488351232) :
    Calls Try.prog 15 #[.slice a l.length cap, .int .i64 n] w fun e w' => ∃ z, e = .returned z ∧ Own w' w.heap.size z (l.take (cutK n l.length)) ∧ Below w.heap.size w w' := by
  by_cases h1 : n ≤ 0
  · have e : cutK n l.length = 0 := by unfold cutK; omega
    rw [e]
    have HQ : Hid _ := clone_any a (0) cap (l.take (0)) w (by rw [List.length_take]; omega) (by omega) (row_take hr _) hn (by omega)
    have q0 : ¬ (l.length : Int) < n := by omega
    have q1 : min n (l.length : Int) = n := by omega
    have q2 : max 0 n = 0 := by omega
    have q4 : ¬ (0 : Int) < n := by omega
    clear hr e h1
    go_enter Try.func15, Try.ntmps15
    go_wp2_with fail
    refine (Calls.mono HQ.out) ?_
    rintro r w1 ⟨z, rfl, o1, b1⟩
    have F : Hid _ := And.intro o1 b1
    clear o1 b1 HQ
    go_wp2
    go_ret
    exact ⟨z, rfl, F.out.1, F.out.2⟩
  by_cases h2 : n ≤ l.length
  · obtain ⟨K, rfl⟩ : ∃ K : Nat, n = K := ⟨n.toNat, by omega⟩
  
    have e : cutK (K : Int) l.length = K := by unfold cutK; omega
    rw [e]
    have HQ : Hid _ := clone_any a (K) cap (l.take (K)) w (by rw [List.length_take]; omega) (by omega) (row_take hr _) hn (by omega)
    have q0 : (K : Int) ≤ (cap : Int) := by omega
    have q1 : (K : Int) ≤ (l.length : Int) := by omega
    have q3 : (K : Int).toNat = K := by omega
    have q4 : (0 : Int) < (K : Int) := by omega
    clear hr e h1
    go_enter Try.func15, Try.ntmps15
    go_wp2_with fail
    refine (Calls.mono HQ.out) ?_
    rintro r w1 ⟨z, rfl, o1, b1⟩
    have F : Hid _ := And.intro o1 b1
    clear o1 b1 HQ
    go_wp2
    go_ret
    exact ⟨z, rfl, F.out.1, F.out.2⟩
  by_cases h3 : l.length = 0
  · have e : cutK n l.length = 0 := by unfold cutK; omega
    rw [e]
    have HQ : Hid _ := clone_any a (0) cap (l.take (0)) w (by rw [List.length_take]; omega) (by omega) (row_take hr _) hn (by omega)
    have q0 : (l.length : Int) < n := by omega
    have q4 : ¬ (0 : Int) < (l.length : Int) := by omega
    clear h3 h2
    clear hr e h1
    go_enter Try.func15, Try.ntmps15
    go_wp2_with fail
    refine (Calls.mono HQ.out) ?_
    rintro r w1 ⟨z, rfl, o1, b1⟩
    have F : Hid _ := And.intro o1 b1
    clear o1 b1 HQ
    go_wp2
    go_ret
    exact ⟨z, rfl, F.out.1, F.out.2⟩
  · have e : cutK n l.length = l.length := by unfold cutK; omega
    rw [e]
    have HQ : Hid _ := clone_any a (l.length) cap (l.take (l.length)) w (by rw [List.length_take]; omega) (by omega) (row_take hr _) hn (by omega)
    have q0 : (l.length : Int) < n := by omega
    have q1 : (l.length : Int) ≤ (cap : Int) := by omega
    have q3 : (l.length : Int).toNat = l.length := by omega
    have q4 : (0 : Int) < (l.length : Int) := by omega
    clear hr e h1
    go_enter Try.func15, Try.ntmps15
    go_wp2_with fail
    refine (Calls.mono HQ.out) ?_
    rintro r w1 ⟨z, rfl, o1, b1⟩
    have F : Hid _ := And.intro o1 b1
    clear o1 b1 HQ
    go_wp2
    go_ret
    exact ⟨z, rfl, F.out.1, F.out.2⟩
set_option maxHeartbeats 1000000 in
theorem rcut_any (a : Option Addr) (cap : Nat) (l : List (BitVec 8)) (n : Int) (w : World) (hr : Row w a l) (hle : l.length ≤ cap) (hn : a = none → cap = 0) (hlen : l.length ≤ 140737488351232) :
    Calls Try.prog 16 #[.slice a l.length cap, .int .i64 n] w fun e w' => ∃ z, e = .returned z ∧ Own w' w.heap.size z (l.take (cutK n l.length)) ∧ Below w.heap.size w w' := by
  have hK := cutK_le n l.length
  have HU : Hid (cutK n l.length = (max 0 (min n (l.length : Int))).toNat) := rfl
  generalize cutK n l.length = K at *
  have HR : Hid _ := hr
  clear hr
  go_enter Try.func16, Try.ntmps16
  go_wp2_with fail
  go_loopw [5, 6] (fun ov iv wr => ∃ k : Nat, k ≤ K ∧ iv = .int .i64 k ∧ Own wr w.heap.size ov (l.take k) ∧ Below w.heap.size w wr) (fun _ iv _ => K - (intOf iv).toNat)
  case atStart => exact ⟨0, by omega, rfl, Own.nil _ _, Below.refl _ _⟩
  case round =>
    obtain ⟨k, hk, rfl, ho, hb⟩ := hrel
    by_cases hlt : k < K
    · have q1 : (k : Int) < (l.length : Int) := by omega
      have q2 : (k : Int) < n := by have := HU.out; omega
      have q3 : (k : Int).toNat = k := by omega
      have hr' : Row wr a l := Row.later HR.out hb
      rcases hr' with e0 | ⟨b, off, rfl, hc⟩
      · subst e0; exact absurd hK (by simp; omega)
      have hc1 := hc k (by omega)
      have htm := take_more1 l k (by omega)
      have B1 := Blk.new' wr 5 [.int .u8 (bt l k)]
      have R1 : Row _ (some ⟨wr.heap.size, 0, none⟩) [l.getD k 0#8] := bk_row (t := 5) (l := [l.getD k 0#8]) B1
      have b2 : Below wr.heap.size wr (wr.alloc (.cells #[.int .u8 (bt l k)] 5)) := (Below.refl _ _).alloc (Nat.le_refl _) _
      have HF : Hid _ := And.intro (ho.later b2) (And.intro R1 (And.intro (below_then hb b2) htm))
      clear ho hb hc R1 b2 B1 htm
      generalize bt l k = x at *
      generalize l.getD k 0#8 = y at *
      go_wp2_with (at_builtin; refine wpList_append_bytes _ rfl _ _ rfl w.heap.size u5 _ rfl HF.out.1 (some ⟨wr.heap.size, 0, none⟩) 1 1 [y] rfl rfl HF.out.2.1 (fun h => by cases h) (by omega) (by rw [List.length_take]; omega) (Below.size HF.out.2.2.1) ?_)
      intro v' w' ho' hg'
      have hb' : Below w.heap.size w w' := (HF.out.2.2.1).grown hg' (Below.size HF.out.2.2.1) (own_block HF.out.1)
      have F : Hid (Own w' w.heap.size v' (l.take (k + 1)) ∧ Below w.heap.size w w') := ⟨by rw [HF.out.2.2.2]; exact ho', hb'⟩
      clear ho' hg' hb' HF hc1
      go_wp2
      go_roundw
      case rel => exact ⟨k + 1, by omega, by go_num, F.out.1, F.out.2⟩
      case measure => simp [intOf]; omega
    · obtain rfl : k = K := by omega
      have G : Hid _ := And.intro ho hb
      clear ho hb
      by_cases hkl : k < l.length
      · have q1 : (k : Int) < (l.length : Int) := by omega
        have q2 : ¬ (k : Int) < n := by have := HU.out; omega
        go_wp2
        go_ret
        exact ⟨_, rfl, G.out.1, G.out.2⟩
      · have q1 : ¬ (k : Int) < (l.length : Int) := by omega
        go_wp2
        go_ret
        exact ⟨_, rfl, G.out.1, G.out.2⟩
end Go.Proofs.Ythgiifeifinngaa
