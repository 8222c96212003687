/- Appending where a writer's own bytes lie, and what stays. -/
import Derived.Test.YtfcaaljehhibgaaXFieldP2
import Derived.Maps.AppendAt
import Derived.Test.YtfcaaljehhibgaaXAid
import Derived.Test.YtfcaaljehhibgaaXFieldRef
namespace Go.Proofs.Ytfcaaljehhibgaa
open Go.RowKit

/-- v' lies where v lay, or in new memory -/
def Newer (w : World) (v v' : Value) : Prop := ∀ k, v'.ownBlock = some k → v.ownBlock = some k ∨ w.heap.size ≤ k
theorem Newer.trans {w w1 : World} {v v1 v2 : Value} (h : Newer w v v1) (k : Newer w1 v1 v2) (hs : w.heap.size ≤ w1.heap.size) : Newer w v v2 := by
  intro i hi
  rcases k i hi with e | e
  · exact h i e
  · exact .inr (by omega)
theorem Newer.none (w : World) (v : Value) : Newer w v (.slice none 0 0) := by intro k hk; simp [Value.ownBlock] at hk

theorem wpList_append_bytes_at (w : World) {ops : Array Oper} {rest : List Oper} {o : Oper} {a : Act} {Q : Exit → Act → World → Prop} (hg : o.guard = none) (s x : Operand)
    (ho : o.op = .call { callee := .builtin .append, args := #[s, x], argTypes := #[34, 34] }) (base : Nat) (v : Value) (l : List (BitVec 8)) (hs : a.eval s = v) (hown : Own w base v l)
    (ab : Option Addr) (m c : Nat) (lb : List (BitVec 8)) (hx : a.eval x = .slice ab m c) (hlb : lb.length = m) (hr : Row w ab lb) (hnil : ab = none → c = 0) (hmc : m ≤ c) (hmax : l.length + m ≤ 140737488355328) (hbase : base ≤ w.heap.size)
    (k : ∀ (v' : Value) (w' : World), Own w' base v' (l ++ lb) → w.grownBy w' v.ownBlock → Newer w v v' → wpList Try.prog ops Q rest (a.put o.dst v') w') :
    wpList Try.prog ops Q (o :: rest) a w := by
  obtain ⟨i0, hi, hz0, hz1, hz2⟩ := info_parts info_u8
  cases ab with
  | none =>
    have hc := hnil rfl
    have hm : m = 0 := by omega
    subst hc; subst hm
    have : lb = [] := List.eq_nil_of_length_eq_zero hlb
    subst this
    refine wpList_append_own_none hg s x 34 ho base 5 i0 1 Try.underlying34 hi v l.length (vals l) hs hown hx ?_
    exact k v w (by simpa using hown) ⟨rfl, rfl, rfl, Nat.le_refl _, fun _ _ _ => rfl⟩ (fun _ e => .inl e)
  | some ad =>
    refine wpList_append_own_at (w := w) hg s x 34 ho base 5 i0 (.int .u8 0) 1 1 Try.underlying34 hi hz0 hz1 hz2 rfl (by decide) v l.length (vals l) hs hown ad m c (vals lb) hx (by rw [vals_length]; omega) ?_ (vals_one lb) (by unfold maxLen; omega) (by omega) hbase ?_
    · intro j u hj
      have hjl : j < lb.length := by
        rcases Nat.lt_or_ge j lb.length with h | h
        · exact h
        · rw [List.getElem?_eq_none (by rw [vals_length]; exact h)] at hj; cases hj
      rcases hr with rfl | ⟨b, off, hb, hc⟩
      · simp at hjl
      · cases hb
        have e : (⟨b, off, none⟩ : Addr).add j = ⟨b, off + j, none⟩ := by unfold Addr.add; split <;> simp_all
        rw [e, hc j hjl, ← vals_at lb j hjl, hj]
    · intro v' w' ho' hg' _ hat
      refine k v' w' ?_ hg' ?_
      · unfold Own
        rw [vals_append, List.length_append, hlb]
        exact ho'
      · intro i hi
        rcases hat with e | e
        · exact .inl (e ▸ hi)
        · rw [e] at hi; cases hi; exact .inr (Nat.le_refl _)

set_option maxHeartbeats 400000 in
theorem numberTo_at (v : Value) (base : Nat) (l : List (BitVec 8)) (size : Nat) (x : BitVec 64) (w : World) (ho : Own w base v l) (hbase : base ≤ w.heap.size) (hl : l.length ≤ 140737488351232) (h1 : 1 ≤ size) (h2 : size ≤ 8) :
    Calls Try.prog 69 #[v, .int .i64 size, .int .u64 (x.toNat : Int)] w fun e w' => ∃ v', e = .returned v' ∧ Own w' base v' (l ++ be size x) ∧ w.grownBy w' v.ownBlock ∧ Newer w v v' := by
  have q3 := slice8 (w.heap.size + 1 + 1) size h1 h2
  have hrow := be_row w x size
  have hbl := be_length size x h2
  obtain ⟨b0, b1, b2, b3, b4, b5, b6, b7, hX, hV⟩ := X8_lit x
  rw [hX] at hrow
  have hb3 : Below w.heap.size w (((w.alloc (.cells #[.int .u8 b0, .int .u8 b1, .int .u8 b2, .int .u8 b3, .int .u8 b4, .int .u8 b5, .int .u8 b6, .int .u8 b7] 118)).alloc (.cells #[.int .u8 b0, .int .u8 b1, .int .u8 b2, .int .u8 b3, .int .u8 b4, .int .u8 b5, .int .u8 b6, .int .u8 b7] 118)).alloc (.cells #[.int .u8 b0, .int .u8 b1, .int .u8 b2, .int .u8 b3, .int .u8 b4, .int .u8 b5, .int .u8 b6, .int .u8 b7] 118)) := (((Below.refl _ _).alloc (Nat.le_refl _) _).alloc (by simp) _).alloc (by simp; omega) _
  have hg3 : w.grownBy (((w.alloc (.cells #[.int .u8 b0, .int .u8 b1, .int .u8 b2, .int .u8 b3, .int .u8 b4, .int .u8 b5, .int .u8 b6, .int .u8 b7] 118)).alloc (.cells #[.int .u8 b0, .int .u8 b1, .int .u8 b2, .int .u8 b3, .int .u8 b4, .int .u8 b5, .int .u8 b6, .int .u8 b7] 118)).alloc (.cells #[.int .u8 b0, .int .u8 b1, .int .u8 b2, .int .u8 b3, .int .u8 b4, .int .u8 b5, .int .u8 b6, .int .u8 b7] 118)) v.ownBlock := grown_trans (grown_trans (World.grownBy_alloc _ _ _) (World.grownBy_alloc _ _ _)) (World.grownBy_alloc _ _ _)
  have ho3 := ho.later hb3
  have R : Hid _ := And.intro hrow (And.intro ho3 (And.intro hbl (And.intro hg3 hb3.size)))
  have H8 : Hid _ := hX
  clear hV hX hrow hb3 ho3 hbl hg3
  go_enter Try.func69, Try.ntmps69
  go_wp2_with fail
  refine (bytesOf_any x _).mono ?_
  rintro e w2 ⟨rfl, rfl⟩
  rw [H8.out]
  go_wp2_with (at_builtin; refine wpList_append_bytes_at _ rfl _ _ rfl base v l rfl R.out.2.1 (some ⟨w.heap.size + 1 + 1, 8 - size, none⟩) size size (be size x) rfl R.out.2.2.1 R.out.1 (fun h => by cases h) (Nat.le_refl _) (by omega) (Nat.le_trans hbase R.out.2.2.2.2) ?_)
  intro v' w' ho' hg' hn'
  have F : Hid _ := And.intro ho' (And.intro (grown_trans R.out.2.2.2.1 hg') (Newer.trans (w := w) (v := v) (fun _ e => .inl e) hn' R.out.2.2.2.2))
  clear ho' hg' R q3 hn'
  go_wp2
  go_ret
  exact ⟨v', rfl, F.out.1, F.out.2.1, F.out.2.2⟩


end Go.Proofs.Ytfcaaljehhibgaa

/- What a writer does. -/
namespace Go.Proofs.Ytfcaaljehhibgaa
open Go.RowKit

/-- the error of a number that is written -/
def wnE (size n : Int) : Int := if widthB size = false then 1 else if size = 8 then 0 else if n < -(2 ^ (8 * size.toNat - 1)) ∨ 2 ^ (8 * size.toNat) - 1 < n then 3 else 0

set_option maxHeartbeats 400000 in
theorem wnumError_1 (n : Int) (w : World) : Calls Try.prog 67 #[.int .i64 1, .int .i64 n] w fun e w' => e = .returned (.int .i64 (if n < -128 ∨ 255 < n then 3 else 0)) ∧ w = w' := by
  by_cases h1 : n < -128
  · rw [if_pos (.inl h1)]
    go_enter Try.func67, Try.ntmps67
    go_wp2_with (go_at_call 72; refine (isWidth_any _ _).mono ?_; rw [show widthB 1 = true from rfl]; rintro e w' ⟨rfl, hw⟩; obtain rfl := hw.symm)
    go_ret
    exact ⟨rfl, rfl⟩
  by_cases h2 : 255 < n
  · rw [if_pos (.inr h2)]
    go_enter Try.func67, Try.ntmps67
    go_wp2_with (go_at_call 72; refine (isWidth_any _ _).mono ?_; rw [show widthB 1 = true from rfl]; rintro e w' ⟨rfl, hw⟩; obtain rfl := hw.symm)
    go_ret
    exact ⟨rfl, rfl⟩
  · rw [if_neg (by omega)]
    go_enter Try.func67, Try.ntmps67
    go_wp2_with (go_at_call 72; refine (isWidth_any _ _).mono ?_; rw [show widthB 1 = true from rfl]; rintro e w' ⟨rfl, hw⟩; obtain rfl := hw.symm)
    go_ret
    exact ⟨rfl, rfl⟩

set_option maxHeartbeats 400000 in
theorem wnumError_2 (n : Int) (w : World) : Calls Try.prog 67 #[.int .i64 2, .int .i64 n] w fun e w' => e = .returned (.int .i64 (if n < -32768 ∨ 65535 < n then 3 else 0)) ∧ w = w' := by
  by_cases h1 : n < -32768
  · rw [if_pos (.inl h1)]
    go_enter Try.func67, Try.ntmps67
    go_wp2_with (go_at_call 72; refine (isWidth_any _ _).mono ?_; rw [show widthB 2 = true from rfl]; rintro e w' ⟨rfl, hw⟩; obtain rfl := hw.symm)
    go_ret
    exact ⟨rfl, rfl⟩
  by_cases h2 : 65535 < n
  · rw [if_pos (.inr h2)]
    go_enter Try.func67, Try.ntmps67
    go_wp2_with (go_at_call 72; refine (isWidth_any _ _).mono ?_; rw [show widthB 2 = true from rfl]; rintro e w' ⟨rfl, hw⟩; obtain rfl := hw.symm)
    go_ret
    exact ⟨rfl, rfl⟩
  · rw [if_neg (by omega)]
    go_enter Try.func67, Try.ntmps67
    go_wp2_with (go_at_call 72; refine (isWidth_any _ _).mono ?_; rw [show widthB 2 = true from rfl]; rintro e w' ⟨rfl, hw⟩; obtain rfl := hw.symm)
    go_ret
    exact ⟨rfl, rfl⟩

set_option maxHeartbeats 400000 in
theorem wnumError_3 (n : Int) (w : World) : Calls Try.prog 67 #[.int .i64 3, .int .i64 n] w fun e w' => e = .returned (.int .i64 (if n < -8388608 ∨ 16777215 < n then 3 else 0)) ∧ w = w' := by
  by_cases h1 : n < -8388608
  · rw [if_pos (.inl h1)]
    go_enter Try.func67, Try.ntmps67
    go_wp2_with (go_at_call 72; refine (isWidth_any _ _).mono ?_; rw [show widthB 3 = true from rfl]; rintro e w' ⟨rfl, hw⟩; obtain rfl := hw.symm)
    go_ret
    exact ⟨rfl, rfl⟩
  by_cases h2 : 16777215 < n
  · rw [if_pos (.inr h2)]
    go_enter Try.func67, Try.ntmps67
    go_wp2_with (go_at_call 72; refine (isWidth_any _ _).mono ?_; rw [show widthB 3 = true from rfl]; rintro e w' ⟨rfl, hw⟩; obtain rfl := hw.symm)
    go_ret
    exact ⟨rfl, rfl⟩
  · rw [if_neg (by omega)]
    go_enter Try.func67, Try.ntmps67
    go_wp2_with (go_at_call 72; refine (isWidth_any _ _).mono ?_; rw [show widthB 3 = true from rfl]; rintro e w' ⟨rfl, hw⟩; obtain rfl := hw.symm)
    go_ret
    exact ⟨rfl, rfl⟩

set_option maxHeartbeats 400000 in
theorem wnumError_4 (n : Int) (w : World) : Calls Try.prog 67 #[.int .i64 4, .int .i64 n] w fun e w' => e = .returned (.int .i64 (if n < -2147483648 ∨ 4294967295 < n then 3 else 0)) ∧ w = w' := by
  by_cases h1 : n < -2147483648
  · rw [if_pos (.inl h1)]
    go_enter Try.func67, Try.ntmps67
    go_wp2_with (go_at_call 72; refine (isWidth_any _ _).mono ?_; rw [show widthB 4 = true from rfl]; rintro e w' ⟨rfl, hw⟩; obtain rfl := hw.symm)
    go_ret
    exact ⟨rfl, rfl⟩
  by_cases h2 : 4294967295 < n
  · rw [if_pos (.inr h2)]
    go_enter Try.func67, Try.ntmps67
    go_wp2_with (go_at_call 72; refine (isWidth_any _ _).mono ?_; rw [show widthB 4 = true from rfl]; rintro e w' ⟨rfl, hw⟩; obtain rfl := hw.symm)
    go_ret
    exact ⟨rfl, rfl⟩
  · rw [if_neg (by omega)]
    go_enter Try.func67, Try.ntmps67
    go_wp2_with (go_at_call 72; refine (isWidth_any _ _).mono ?_; rw [show widthB 4 = true from rfl]; rintro e w' ⟨rfl, hw⟩; obtain rfl := hw.symm)
    go_ret
    exact ⟨rfl, rfl⟩

set_option maxHeartbeats 400000 in
theorem wnumError_5 (n : Int) (w : World) : Calls Try.prog 67 #[.int .i64 5, .int .i64 n] w fun e w' => e = .returned (.int .i64 (if n < -549755813888 ∨ 1099511627775 < n then 3 else 0)) ∧ w = w' := by
  by_cases h1 : n < -549755813888
  · rw [if_pos (.inl h1)]
    go_enter Try.func67, Try.ntmps67
    go_wp2_with (go_at_call 72; refine (isWidth_any _ _).mono ?_; rw [show widthB 5 = true from rfl]; rintro e w' ⟨rfl, hw⟩; obtain rfl := hw.symm)
    go_ret
    exact ⟨rfl, rfl⟩
  by_cases h2 : 1099511627775 < n
  · rw [if_pos (.inr h2)]
    go_enter Try.func67, Try.ntmps67
    go_wp2_with (go_at_call 72; refine (isWidth_any _ _).mono ?_; rw [show widthB 5 = true from rfl]; rintro e w' ⟨rfl, hw⟩; obtain rfl := hw.symm)
    go_ret
    exact ⟨rfl, rfl⟩
  · rw [if_neg (by omega)]
    go_enter Try.func67, Try.ntmps67
    go_wp2_with (go_at_call 72; refine (isWidth_any _ _).mono ?_; rw [show widthB 5 = true from rfl]; rintro e w' ⟨rfl, hw⟩; obtain rfl := hw.symm)
    go_ret
    exact ⟨rfl, rfl⟩

set_option maxHeartbeats 400000 in
theorem wnumError_6 (n : Int) (w : World) : Calls Try.prog 67 #[.int .i64 6, .int .i64 n] w fun e w' => e = .returned (.int .i64 (if n < -140737488355328 ∨ 281474976710655 < n then 3 else 0)) ∧ w = w' := by
  by_cases h1 : n < -140737488355328
  · rw [if_pos (.inl h1)]
    go_enter Try.func67, Try.ntmps67
    go_wp2_with (go_at_call 72; refine (isWidth_any _ _).mono ?_; rw [show widthB 6 = true from rfl]; rintro e w' ⟨rfl, hw⟩; obtain rfl := hw.symm)
    go_ret
    exact ⟨rfl, rfl⟩
  by_cases h2 : 281474976710655 < n
  · rw [if_pos (.inr h2)]
    go_enter Try.func67, Try.ntmps67
    go_wp2_with (go_at_call 72; refine (isWidth_any _ _).mono ?_; rw [show widthB 6 = true from rfl]; rintro e w' ⟨rfl, hw⟩; obtain rfl := hw.symm)
    go_ret
    exact ⟨rfl, rfl⟩
  · rw [if_neg (by omega)]
    go_enter Try.func67, Try.ntmps67
    go_wp2_with (go_at_call 72; refine (isWidth_any _ _).mono ?_; rw [show widthB 6 = true from rfl]; rintro e w' ⟨rfl, hw⟩; obtain rfl := hw.symm)
    go_ret
    exact ⟨rfl, rfl⟩

set_option maxHeartbeats 400000 in
theorem wnumError_7 (n : Int) (w : World) : Calls Try.prog 67 #[.int .i64 7, .int .i64 n] w fun e w' => e = .returned (.int .i64 (if n < -36028797018963968 ∨ 72057594037927935 < n then 3 else 0)) ∧ w = w' := by
  by_cases h1 : n < -36028797018963968
  · rw [if_pos (.inl h1)]
    go_enter Try.func67, Try.ntmps67
    go_wp2_with (go_at_call 72; refine (isWidth_any _ _).mono ?_; rw [show widthB 7 = true from rfl]; rintro e w' ⟨rfl, hw⟩; obtain rfl := hw.symm)
    go_ret
    exact ⟨rfl, rfl⟩
  by_cases h2 : 72057594037927935 < n
  · rw [if_pos (.inr h2)]
    go_enter Try.func67, Try.ntmps67
    go_wp2_with (go_at_call 72; refine (isWidth_any _ _).mono ?_; rw [show widthB 7 = true from rfl]; rintro e w' ⟨rfl, hw⟩; obtain rfl := hw.symm)
    go_ret
    exact ⟨rfl, rfl⟩
  · rw [if_neg (by omega)]
    go_enter Try.func67, Try.ntmps67
    go_wp2_with (go_at_call 72; refine (isWidth_any _ _).mono ?_; rw [show widthB 7 = true from rfl]; rintro e w' ⟨rfl, hw⟩; obtain rfl := hw.symm)
    go_ret
    exact ⟨rfl, rfl⟩

set_option maxHeartbeats 400000 in
theorem wnumError_any (size n : Int) (w : World) : Calls Try.prog 67 #[.int .i64 size, .int .i64 n] w fun e w' => e = .returned (.int .i64 (wnE size n)) ∧ w = w' := by
  cases hw : widthB size with
  | false =>
    have H : wnE size n = 1 := by unfold wnE; rw [hw]; rfl
    rw [H]
    go_enter Try.func67, Try.ntmps67
    go_wp2_with (go_at_call 72; refine (isWidth_any size _).mono ?_; rw [hw]; rintro e w' ⟨rfl, hw⟩; obtain rfl := hw.symm)
    go_ret
    exact ⟨rfl, rfl⟩
  | true =>
    have hb := hw
    unfold widthB at hb
    rw [decide_eq_true_eq] at hb
    by_cases h8 : size = 8
    · subst h8
      have H : wnE 8 n = 0 := by unfold wnE; rw [hw]; rfl
      rw [H]
      go_enter Try.func67, Try.ntmps67
      go_wp2_with (go_at_call 72; refine (isWidth_any 8 _).mono ?_; rw [hw]; rintro e w' ⟨rfl, hw⟩; obtain rfl := hw.symm)
      go_ret
      exact ⟨rfl, rfl⟩
    · have hc : size = 1 ∨ size = 2 ∨ size = 3 ∨ size = 4 ∨ size = 5 ∨ size = 6 ∨ size = 7 := by omega
      rcases hc with rfl | rfl | rfl | rfl | rfl | rfl | rfl
      · exact wnumError_1 n w
      · exact wnumError_2 n w
      · exact wnumError_3 n w
      · exact wnumError_4 n w
      · exact wnumError_5 n w
      · exact wnumError_6 n w
      · exact wnumError_7 n w

theorem wnE_0 {size n : Int} (h : wnE size n = 0) : ∃ s : Nat, size = s ∧ 1 ≤ s ∧ s ≤ 8 ∧ (s < 8 → -(2 ^ (8 * s - 1)) ≤ n ∧ n ≤ 2 ^ (8 * s) - 1) := by
  unfold wnE at h
  cases hw : widthB size with
  | false => rw [hw] at h; simp at h
  | true =>
    rw [hw] at h
    unfold widthB at hw
    rw [decide_eq_true_eq] at hw
    refine ⟨size.toNat, by omega, by omega, by omega, fun h7 => ?_⟩
    rw [if_neg (by decide), if_neg (by omega)] at h
    split at h
    · cases h
    · omega

/-- a writer at block g: v its bytes, L what was written, E its error -/
structure WrAt (w : World) (base g T : Nat) (v : Value) (L : List (BitVec 8)) (E : Int) : Prop where
  blk : Blk w g T [v, .int .i64 E]
  own : ∃ l, Own w base v l ∧ (E = 0 → l = L)
  base_g : base ≤ g
  base_w : base ≤ w.heap.size
  other : T ≠ 5
/-- the writer's bytes lie in no block of another type -/
theorem own_apart {w : World} {base g T : Nat} {v : Value} {l : List (BitVec 8)} {xs : List Value} (ho : Own w base v l) (hB : Blk w g T xs) (hT : T ≠ 5) : ∀ k, v.ownBlock = some k → k ≠ g := by
  intro k hk e
  subst e
  obtain ⟨h1, ⟨rfl, _⟩ | ⟨g', cap, cur, rfl, hb, hh, r⟩⟩ := ho
  · simp [Value.ownBlock] at hk
  · have e' : g' = k := by simpa [Value.ownBlock] using hk
    subst e'
    unfold Blk at hB
    rw [hh] at hB
    simp only [Option.some.injEq, Obj.cells.injEq] at hB
    exact hT hB.2.1.symm
theorem own_slice {w : World} {base : Nat} {v : Value} {l : List (BitVec 8)} (ho : Own w base v l) : ∃ a n cap, v = .slice a n cap := by
  obtain ⟨a, cap, rfl, _⟩ := ho.open
  exact ⟨a, _, cap, rfl⟩
/-- what it turns -/
def Mine (g : Nat) (v : Value) (k : Nat) : Prop := k = g ∨ v.ownBlock = some k
/-- what a write does -/
def wrNum (L : List (BitVec 8)) (E size n : Int) : List (BitVec 8) × Int := if E = 0 then (if wnE size n = 0 then (L ++ be size.toNat (BitVec.ofInt 64 n), 0) else ([], wnE size n)) else ([], E)
def wrBytes (L : List (BitVec 8)) (E size : Int) (p : List (BitVec 8)) : List (BitVec 8) × Int := if E = 0 then (if addE size p.length = 0 then (L ++ (be size.toNat (BitVec.ofNat 64 p.length) ++ p), 0) else ([], addE size p.length)) else ([], E)

theorem WrAt.stays {w w' : World} {base g T : Nat} {v : Value} {L : List (BitVec 8)} {E : Int} {R : Nat → Prop} (h : WrAt w base g T v L E) (ht : Turned R w w') (hg : ¬ R g) (hv : ∀ k, v.ownBlock = some k → ¬ R k) : WrAt w' base g T v L E := by
  obtain ⟨hB, ⟨l, ho, hl⟩, hb, hw, hT⟩ := h
  exact ⟨hB.turned ht hg, ⟨l, ho.turned ht hv, hl⟩, hb, Nat.le_trans hw ht.size, hT⟩
theorem WrAt.forget {w : World} {base g T : Nat} {v : Value} {L : List (BitVec 8)} {E : Int} (h : WrAt w base g T v L E) (hE : E ≠ 0) {L' : List (BitVec 8)} : WrAt w base g T v L' E := by
  obtain ⟨hB, ⟨l, ho, hl⟩, hb, hw, hT⟩ := h
  exact ⟨hB, ⟨l, ho, fun e => absurd e hE⟩, hb, hw, hT⟩
theorem turned_refl (R : Nat → Prop) (w : World) : Turned R w w := ⟨rfl, rfl, rfl, Nat.le_refl _, fun _ _ _ => rfl⟩
/-- a writer's cell is set to what it was given to write on -/
theorem WrAt.put {w w1 : World} {base g T : Nat} {v v1 : Value} {L : List (BitVec 8)} {l1 : List (BitVec 8)} (h : WrAt w base g T v L 0) (ho1 : Own w1 base v1 l1) (hg1 : w.grownBy w1 v.ownBlock) (hn : Newer w v v1) :
    WrAt (w1.setCell ⟨g, 0, none⟩ v1) base g T v1 l1 0 ∧ Newer w v v1 ∧ Turned (Mine g v) w (w1.setCell ⟨g, 0, none⟩ v1) := by
  obtain ⟨hB, ⟨l, ho, hl⟩, hb, hw, hT⟩ := h
  have hvg := own_apart ho hB hT
  have hB1 : Blk w1 g T [v, .int .i64 0] := hB.grown hg1 (fun e => hvg g e.symm rfl)
  have hG := grown_set w1 g 0 v1
  refine ⟨⟨hB1.set 0 v1, ⟨l1, ho1.keep hG (fun k hk e => ?_), fun _ => rfl⟩, hb, Nat.le_trans (Nat.le_trans hw hg1.size) hG.size, hT⟩, hn, (turned_grown hg1 (fun k e => .inr e)).trans (turned_grown hG (fun k e => .inl (.inl (by simpa using e.symm))))⟩
  exact own_apart ho1 hB1 hT k hk (by simpa using e)

set_option maxHeartbeats 400000 in
theorem wfail_any (g : Nat) (x y : Value) (E : Int) (w : World) (hB : Blk w g 113 [x, y]) :
    Calls Try.prog 68 #[.pointer (some ⟨g, 0, none⟩), .int .i64 E] w fun e w' => e = .returned (.tuple #[]) ∧ Blk w' g 113 [.slice none 0 0, .int .i64 E] ∧ w.grownBy w' (some g) := by
  have f0 := hB.frozen (by simp [maxLen]) 0
  have f1 := hB.frozen (by simp [maxLen]) 1
  have c0 := hB.cell (by simp [maxLen]) 0 (by simp)
  have c1 := hB.cell (by simp [maxLen]) 1 (by simp)
  simp only [List.getElem?_cons_zero, List.getElem?_cons_succ] at c0 c1
  have B1 := hB.set 0 (.slice none 0 0)
  have B2 := B1.set 1 (.int .i64 E)
  have G1 := grown_trans (grown_set w g 0 (.slice none 0 0)) (grown_set (w.setCell ⟨g, 0, none⟩ (.slice none 0 0)) g 1 (.int .i64 E))
  have R : Hid _ := And.intro B2 G1
  clear hB B1 B2 G1
  go_enter Try.func68, Try.ntmps68
  go_wp2
  go_end0
  exact ⟨rfl, R.out.1, R.out.2⟩

theorem WrAt.failed {w w' : World} {base g T : Nat} {v : Value} {L : List (BitVec 8)} {E E' : Int} (h : WrAt w base g T v L E) (hB : Blk w' g T [.slice none 0 0, .int .i64 E']) (hg : w.grownBy w' (some g)) (hE : E' ≠ 0) :
    ∃ v', WrAt w' base g T v' [] E' ∧ Newer w v v' ∧ Turned (Mine g v) w w' :=
  ⟨.slice none 0 0, ⟨hB, ⟨[], Own.nil _ _, fun e => absurd e hE⟩, h.base_g, Nat.le_trans h.base_w hg.size, h.other⟩, Newer.none _ _, turned_grown hg (fun k e => .inl (by simpa using e.symm))⟩

theorem toU64 (n : Int) : n % 18446744073709551616 = ((BitVec.ofInt 64 n).toNat : Int) := by
  rw [BitVec.toNat_ofInt]
  omega

set_option maxHeartbeats 400000 in
theorem wNum_any (base g : Nat) (v : Value) (L : List (BitVec 8)) (E size n : Int) (w : World) (hW : WrAt w base g 113 v L E) (hL : L.length ≤ 140737488351232) :
    Calls Try.prog 54 #[.pointer (some ⟨g, 0, none⟩), .int .i64 size, .int .i64 n] w fun e w' => e = .returned (.tuple #[]) ∧ ∃ v', WrAt w' base g 113 v' (wrNum L E size n).1 (wrNum L E size n).2 ∧ Newer w v v' ∧ Turned (Mine g v) w w' := by
  have hB := hW.blk
  have c0 := hB.cell (by simp [maxLen]) 0 (by simp)
  have c1 := hB.cell (by simp [maxLen]) 1 (by simp)
  simp only [List.getElem?_cons_zero, List.getElem?_cons_succ] at c0 c1
  by_cases hE : E = 0
  · subst hE
    by_cases hn : wnE size n = 0
    · have e : wrNum L 0 size n = (L ++ be size.toNat (BitVec.ofInt 64 n), 0) := by unfold wrNum; rw [if_pos rfl, if_pos hn]
      rw [e]
      obtain ⟨s, rfl, h1, h2, _⟩ := wnE_0 hn
      rw [Int.toNat_natCast]
      obtain ⟨l, ho, hl⟩ := hW.own
      have hl' := hl rfl
      subst hl'
      obtain ⟨av, nv, cv, rfl⟩ := own_slice ho
      have hN := numberTo_at _ base l s (BitVec.ofInt 64 n) w ho hW.base_w hL h1 h2
      rw [← toU64] at hN
      have K : Hid _ := And.intro hW (And.intro hB ho)
      clear hW hB ho hl
      go_enter Try.func54, Try.ntmps54
      go_wp2_with fail
      refine (wnumError_any s n w).mono ?_
      rw [hn]
      rintro e w' ⟨rfl, rfl⟩
      go_wp2_with fail
      refine Calls.mono hN ?_
      rintro e w1 ⟨v1, rfl, ho1, hg1, hn1⟩
      obtain ⟨a1, n1, cap1, rfl⟩ := own_slice ho1
      have hB1 := K.out.2.1.grown hg1 (fun e => own_apart K.out.2.2 K.out.2.1 K.out.1.other g e.symm rfl)
      have d0 := hB1.cell (by simp [maxLen]) 0 (by simp)
      have f0 := hB1.frozen (by simp [maxLen]) 0
      simp only [List.getElem?_cons_zero] at d0
      have P : Hid _ := WrAt.put K.out.1 ho1 hg1 hn1
      clear ho1 hg1 hn1 hB1 hN
      go_wp2
      go_end0
      exact ⟨rfl, _, P.out.1, P.out.2.1, P.out.2.2⟩
    · have e : wrNum L 0 size n = ([], wnE size n) := by unfold wrNum; rw [if_pos rfl, if_neg hn]
      rw [e]
      have hn' : (wnE size n == 0) = false := by simpa using hn
      go_enter Try.func54, Try.ntmps54
      go_wp2_with fail
      refine (wnumError_any size n w).mono ?_
      rintro e w' ⟨rfl, rfl⟩
      go_wp2_with fail
      refine (wfail_any g _ _ _ w hB).mono ?_
      rintro e w1 ⟨rfl, hB1, hg1⟩
      have P : Hid _ := hW.failed hB1 hg1 hn
      clear hB hB1 hg1 hW
      go_wp2
      refine bodyPost_ret (results_none rfl _ _ _) rfl ?_
      exact ⟨rfl, P.out⟩
  · have e : wrNum L E size n = ([], E) := by unfold wrNum; rw [if_neg hE]
    rw [e]
    have K : Hid _ := hW
    clear hW hB
    go_enter Try.func54, Try.ntmps54
    go_wp2
    refine bodyPost_ret (results_none rfl _ _ _) rfl ?_
    exact ⟨rfl, v, K.out.forget hE, fun _ e => .inl e, turned_refl _ _⟩


/-- what a writer's end gives -/
def wrEnd (L : List (BitVec 8)) (E : Int) : List (BitVec 8) := if E = 0 then L else []

set_option maxHeartbeats 400000 in
theorem wEnd_any (base g : Nat) (v : Value) (L : List (BitVec 8)) (E : Int) (w : World) (hW : WrAt w base g 113 v L E) (hL : L.length ≤ 140737488351232) :
    Calls Try.prog 55 #[.pointer (some ⟨g, 0, none⟩)] w fun e w' => ∃ c, e = .returned (.tuple #[c, .int .i64 E]) ∧ Own w' w.heap.size c (wrEnd L E) ∧ Below w.heap.size w w' := by
  have hB := hW.blk
  have c0 := hB.cell (by simp [maxLen]) 0 (by simp)
  have c1 := hB.cell (by simp [maxLen]) 1 (by simp)
  simp only [List.getElem?_cons_zero, List.getElem?_cons_succ] at c0 c1
  by_cases hE : E = 0
  · subst hE
    obtain ⟨l, ho, hl⟩ := hW.own
    have hl' := hl rfl
    subst hl'
    obtain ⟨a1, cap1, rfl, hle1, hm1, hr1, hn1, _⟩ := ho.open
    have e : wrEnd l 0 = l := by unfold wrEnd; rw [if_pos rfl]
    rw [e]
    clear hB hW ho hl
    go_enter Try.func55, Try.ntmps55
    go_wp2_with fail
    refine (clone_any a1 l.length cap1 l w rfl hle1 hr1 hn1 (by omega)).mono ?_
    rintro e w1 ⟨c, rfl, hoc, hbc⟩
    have F : Hid _ := And.intro hoc hbc
    clear hoc hbc hr1
    go_wp2
    go_ret2
    exact ⟨c, rfl, F.out.1, F.out.2⟩
  · have e : wrEnd L E = [] := by unfold wrEnd; rw [if_neg hE]
    rw [e]
    clear hB hW
    go_enter Try.func55, Try.ntmps55
    go_wp2
    have S0 : w.drew.cell? ⟨g, 1, none⟩ = some (.int .i64 E) := c1
    go_region_held_law (fun W => W.cell? ⟨g, 1, none⟩ = some (.int .i64 E)) (first | exact S0 | assumption) (fail)
    go_wp2
    go_ret2
    exact ⟨_, rfl, Own.nil _ _, (Below.refl _ _).drew⟩

set_option maxHeartbeats 400000 in
theorem NewWriter_any (base : Nat) (w : World) (hb : base ≤ w.heap.size) :
    Calls Try.prog 53 #[] w fun e w' => ∃ g, e = .returned (.pointer (some ⟨g, 0, none⟩)) ∧ w.heap.size ≤ g ∧ WrAt w' base g 113 (.slice none 0 0) [] 0 ∧ Below w.heap.size w w' := by
  have hB := Blk.new' w 113 [.slice none 0 0, .int .i64 0]
  have hb1 : Below w.heap.size w (w.alloc (.cells #[.slice none 0 0, .int .i64 0] 113)) := (Below.refl _ _).alloc (Nat.le_refl _) _
  have F : Hid _ := And.intro hB hb1
  clear hB hb1
  go_enter Try.func53, Try.ntmps53
  go_wp2
  go_ret
  exact ⟨w.heap.size, rfl, Nat.le_refl _, ⟨F.out.1, ⟨[], Own.nil _ _, fun _ => rfl⟩, hb, Nat.le_trans hb F.out.2.size, by decide⟩, F.out.2⟩
end Go.Proofs.Ytfcaaljehhibgaa

/- The document's writer. -/
namespace Go.Proofs.Ytfcaaljehhibgaa
open Go.RowKit

theorem byte_of (n : Int) (k : Nat) (hk : k < 8) : n / 2 ^ (8 * k) % 256 = ((BitVec.ofInt 64 n).toNat : Int) / 2 ^ (8 * k) % 256 := by
  rw [← toU64]
  have h : k = 0 ∨ k = 1 ∨ k = 2 ∨ k = 3 ∨ k = 4 ∨ k = 5 ∨ k = 6 ∨ k = 7 := by omega
  rcases h with rfl | rfl | rfl | rfl | rfl | rfl | rfl | rfl <;> simp only [Nat.mul_zero, Nat.mul_one, Nat.reduceMul, Int.reducePow] <;> omega
theorem byte_be (n : Int) (s k : Nat) (hs : s ≤ 8) (hk : k < s) : n / 2 ^ (8 * k) % 256 = (((be s (BitVec.ofInt 64 n)).getD (s - 1 - k) 0#8).toNat : Int) := by
  have := be_val (BitVec.ofInt 64 n) s (s - 1 - k) hs (by omega)
  rw [show s - 1 - (s - 1 - k) = k by omega] at this
  rw [byte_of n k (by omega), this]
theorem take_more (l : List (BitVec 8)) (s k : Nat) (hl : l.length = s) (hk : k < s) : l.take (s - k) = l.take (s - (k + 1)) ++ [l.getD (s - 1 - k) 0#8] := by
  rw [show s - k = (s - (k + 1)) + 1 by omega, List.take_add_one]
  rw [show s - 1 - k = s - (k + 1) by omega]
  rw [List.getD, List.getElem?_eq_getElem (by omega)]
  rfl

theorem WrAt.more {w wr wr' w1 : World} {base g T : Nat} {v v1 v2 : Value} {L l2 : List (BitVec 8)} (hW1 : WrAt wr base g T v1 L 0) (hN1 : Newer w v v1) (hT1 : Turned (Mine g v) w wr) (hb : Below wr.heap.size wr wr')
    (ho2 : Own w1 base v2 l2) (hg2 : wr'.grownBy w1 v1.ownBlock) (hn2 : Newer wr' v1 v2) : WrAt (w1.setCell ⟨g, 0, none⟩ v2) base g T v2 l2 0 ∧ Newer w v v2 ∧ Turned (Mine g v) w (w1.setCell ⟨g, 0, none⟩ v2) := by
  have hT : Turned (fun _ => False) wr wr' := turned_grown (below_grown hb) (fun k e => by cases e)
  have hW := hW1.stays hT (fun e => e) (fun _ _ e => e)
  obtain ⟨p1, p2, p3⟩ := hW.put ho2 hg2 hn2
  refine ⟨p1, hN1.trans hn2 (Nat.le_trans hT1.size hb.size), (hT1.trans (hT.mono (fun _ e => e.elim))).trans (p3.mono ?_)⟩
  rintro k (rfl | e)
  · exact .inl (.inl rfl)
  · rcases hN1 k e with e | e
    · exact .inl (.inr e)
    · exact .inr e

set_option maxHeartbeats 1000000 in
theorem rwNum_1 (base g : Nat) (v : Value) (L : List (BitVec 8)) (n : Int) (w : World) (hW : WrAt w base g 83 v L 0) (hL : L.length + 8 ≤ 140737488351232) (h1 : -128 ≤ n) (h2 : n ≤ 255) :
    Calls Try.prog 42 #[.pointer (some ⟨g, 0, none⟩), .int .i64 1, .int .i64 n] w fun e w' => e = .returned (.tuple #[]) ∧ ∃ v', WrAt w' base g 83 v' (L ++ be 1 (BitVec.ofInt 64 n)) 0 ∧ Newer w v v' ∧ Turned (Mine g v) w w' := by
  have c1 := hW.blk.cell (by simp [maxLen]) 1 (by simp)
  simp only [List.getElem?_cons_zero, List.getElem?_cons_succ] at c1
  have t1 : ¬ n < -128 := by omega
  have t2 : ¬ 255 < n := by omega
  clear h1 h2
  have hbl := be_length 1 (BitVec.ofInt 64 n) (by omega)
  go_enter Try.func42, Try.ntmps42
  go_wp2_with fail
  go_loopw [8] (fun i wr => ∃ (m : Nat) (v' : Value), m ≤ 1 ∧ i = .int .i64 ((m : Int) - 1) ∧ WrAt wr base g 83 v' (L ++ (be 1 (BitVec.ofInt 64 n)).take (1 - m)) 0 ∧ Newer w v v' ∧ Turned (Mine g v) w wr) (fun i _ => (intOf i + 1).toNat)
  case atStart => exact ⟨1, v, by omega, by rfl, by simpa using hW, fun _ e => .inl e, turned_refl _ _⟩
  case round =>
    obtain ⟨m, v1, hm, rfl, hW1, hN1, hT1⟩ := hrel
    by_cases hm0 : m = 0
    · subst hm0
      rw [List.take_of_length_le (by omega)] at hW1
      have F : Hid _ := And.intro hW1 (And.intro hN1 hT1)
      clear hW1 hN1 hT1 hW c1
      go_wp2
      go_end0
      exact ⟨rfl, v1, F.out.1, F.out.2.1, F.out.2.2⟩
    · obtain ⟨k, rfl⟩ : ∃ k, m = k + 1 := ⟨m - 1, by omega⟩
      have e : (((k + 1 : Nat) : Int) - 1) = (k : Int) := by omega
      rw [e]
      obtain ⟨l, ho, hl⟩ := hW1.own
      have hl' := hl rfl
      subst hl'
      obtain ⟨av, nv, cv, rfl⟩ := own_slice ho
      have c0 := hW1.blk.cell (by simp [maxLen]) 0 (by simp)
      simp only [List.getElem?_cons_zero] at c0
      have hby := byte_be n 1 k (by omega) (by omega)
      have htk : (L ++ (be 1 (BitVec.ofInt 64 n)).take (1 - (k + 1))) ++ [(be 1 (BitVec.ofInt 64 n)).getD (1 - 1 - k) 0#8] = L ++ (be 1 (BitVec.ofInt 64 n)).take (1 - k) := by rw [take_more (be 1 (BitVec.ofInt 64 n)) 1 k hbl (by omega), List.append_assoc]
      have ll : (L ++ (be 1 (BitVec.ofInt 64 n)).take (1 - (k + 1))).length ≤ L.length + 8 := by rw [List.length_append, List.length_take]; omega
      generalize L ++ (be 1 (BitVec.ofInt 64 n)).take (1 - (k + 1)) = P1 at *
      generalize (be 1 (BitVec.ofInt 64 n)).getD (1 - 1 - k) 0#8 = cB at *
      have bA : Below wr.heap.size wr (wr.alloc (.cells #[.int .u8 (n / 2 ^ (8 * k) % 256)] 5)) := (Below.refl _ _).alloc (Nat.le_refl _) _
      have oA := ho.later bA
      have rA : Row (wr.alloc (.cells #[.int .u8 (n / 2 ^ (8 * k) % 256)] 5)) (some ⟨wr.heap.size, 0, none⟩) [cB] := Row.newl _ _ _ _ _ (by rw [hby]; rfl)
      have bW : base ≤ wr.heap.size + 1 := Nat.le_succ_of_le hW1.base_w
      have K : Hid _ := And.intro hW1 (And.intro hN1 (And.intro hT1 (And.intro bA (And.intro oA (And.intro rA htk)))))
      clear hW1 hN1 hT1 ho hl hW c1 bA oA rA htk hby
      go_wp2_with (at_builtin; refine wpList_append_bytes_at _ rfl _ _ rfl base (.slice av nv cv) P1 rfl K.out.2.2.2.2.1 (some ⟨wr.heap.size, 0, none⟩) 1 1 [cB] rfl rfl K.out.2.2.2.2.2.1 (fun h => by cases h) (Nat.le_refl _) (by omega) (by simpa using bW) ?_)
      intro v2 w2 ho2 hg2 hn2
      rw [K.out.2.2.2.2.2.2] at ho2
      obtain ⟨a2, n2, cap2, rfl⟩ := own_slice ho2
      have hB2 := (K.out.1.blk.grown (below_grown K.out.2.2.2.1) (by simp)).grown hg2 (fun e => own_apart K.out.2.2.2.2.1 (K.out.1.blk.grown (below_grown K.out.2.2.2.1) (by simp)) K.out.1.other g e.symm rfl)
      have d0 := hB2.cell (by simp [maxLen]) 0 (by simp)
      have f0 := hB2.frozen (by simp [maxLen]) 0
      simp only [List.getElem?_cons_zero] at d0
      have P : Hid _ := WrAt.more K.out.1 K.out.2.1 K.out.2.2.1 K.out.2.2.2.1 ho2 hg2 hn2
      clear ho2 hg2 hn2 hB2 K c0
      go_wp2
      go_roundw
      case rel => exact ⟨k, _, by omega, by go_num, P.out.1, P.out.2.1, P.out.2.2⟩
      case measure => simp [intOf]

set_option maxHeartbeats 1000000 in
theorem rwNum_2 (base g : Nat) (v : Value) (L : List (BitVec 8)) (n : Int) (w : World) (hW : WrAt w base g 83 v L 0) (hL : L.length + 8 ≤ 140737488351232) (h1 : -32768 ≤ n) (h2 : n ≤ 65535) :
    Calls Try.prog 42 #[.pointer (some ⟨g, 0, none⟩), .int .i64 2, .int .i64 n] w fun e w' => e = .returned (.tuple #[]) ∧ ∃ v', WrAt w' base g 83 v' (L ++ be 2 (BitVec.ofInt 64 n)) 0 ∧ Newer w v v' ∧ Turned (Mine g v) w w' := by
  have c1 := hW.blk.cell (by simp [maxLen]) 1 (by simp)
  simp only [List.getElem?_cons_zero, List.getElem?_cons_succ] at c1
  have t1 : ¬ n < -32768 := by omega
  have t2 : ¬ 65535 < n := by omega
  clear h1 h2
  have hbl := be_length 2 (BitVec.ofInt 64 n) (by omega)
  go_enter Try.func42, Try.ntmps42
  go_wp2_with fail
  go_loopw [8] (fun i wr => ∃ (m : Nat) (v' : Value), m ≤ 2 ∧ i = .int .i64 ((m : Int) - 1) ∧ WrAt wr base g 83 v' (L ++ (be 2 (BitVec.ofInt 64 n)).take (2 - m)) 0 ∧ Newer w v v' ∧ Turned (Mine g v) w wr) (fun i _ => (intOf i + 1).toNat)
  case atStart => exact ⟨2, v, by omega, by rfl, by simpa using hW, fun _ e => .inl e, turned_refl _ _⟩
  case round =>
    obtain ⟨m, v1, hm, rfl, hW1, hN1, hT1⟩ := hrel
    by_cases hm0 : m = 0
    · subst hm0
      rw [List.take_of_length_le (by omega)] at hW1
      have F : Hid _ := And.intro hW1 (And.intro hN1 hT1)
      clear hW1 hN1 hT1 hW c1
      go_wp2
      go_end0
      exact ⟨rfl, v1, F.out.1, F.out.2.1, F.out.2.2⟩
    · obtain ⟨k, rfl⟩ : ∃ k, m = k + 1 := ⟨m - 1, by omega⟩
      have e : (((k + 1 : Nat) : Int) - 1) = (k : Int) := by omega
      rw [e]
      obtain ⟨l, ho, hl⟩ := hW1.own
      have hl' := hl rfl
      subst hl'
      obtain ⟨av, nv, cv, rfl⟩ := own_slice ho
      have c0 := hW1.blk.cell (by simp [maxLen]) 0 (by simp)
      simp only [List.getElem?_cons_zero] at c0
      have hby := byte_be n 2 k (by omega) (by omega)
      have htk : (L ++ (be 2 (BitVec.ofInt 64 n)).take (2 - (k + 1))) ++ [(be 2 (BitVec.ofInt 64 n)).getD (2 - 1 - k) 0#8] = L ++ (be 2 (BitVec.ofInt 64 n)).take (2 - k) := by rw [take_more (be 2 (BitVec.ofInt 64 n)) 2 k hbl (by omega), List.append_assoc]
      have ll : (L ++ (be 2 (BitVec.ofInt 64 n)).take (2 - (k + 1))).length ≤ L.length + 8 := by rw [List.length_append, List.length_take]; omega
      generalize L ++ (be 2 (BitVec.ofInt 64 n)).take (2 - (k + 1)) = P1 at *
      generalize (be 2 (BitVec.ofInt 64 n)).getD (2 - 1 - k) 0#8 = cB at *
      have bA : Below wr.heap.size wr (wr.alloc (.cells #[.int .u8 (n / 2 ^ (8 * k) % 256)] 5)) := (Below.refl _ _).alloc (Nat.le_refl _) _
      have oA := ho.later bA
      have rA : Row (wr.alloc (.cells #[.int .u8 (n / 2 ^ (8 * k) % 256)] 5)) (some ⟨wr.heap.size, 0, none⟩) [cB] := Row.newl _ _ _ _ _ (by rw [hby]; rfl)
      have bW : base ≤ wr.heap.size + 1 := Nat.le_succ_of_le hW1.base_w
      have K : Hid _ := And.intro hW1 (And.intro hN1 (And.intro hT1 (And.intro bA (And.intro oA (And.intro rA htk)))))
      clear hW1 hN1 hT1 ho hl hW c1 bA oA rA htk hby
      go_wp2_with (at_builtin; refine wpList_append_bytes_at _ rfl _ _ rfl base (.slice av nv cv) P1 rfl K.out.2.2.2.2.1 (some ⟨wr.heap.size, 0, none⟩) 1 1 [cB] rfl rfl K.out.2.2.2.2.2.1 (fun h => by cases h) (Nat.le_refl _) (by omega) (by simpa using bW) ?_)
      intro v2 w2 ho2 hg2 hn2
      rw [K.out.2.2.2.2.2.2] at ho2
      obtain ⟨a2, n2, cap2, rfl⟩ := own_slice ho2
      have hB2 := (K.out.1.blk.grown (below_grown K.out.2.2.2.1) (by simp)).grown hg2 (fun e => own_apart K.out.2.2.2.2.1 (K.out.1.blk.grown (below_grown K.out.2.2.2.1) (by simp)) K.out.1.other g e.symm rfl)
      have d0 := hB2.cell (by simp [maxLen]) 0 (by simp)
      have f0 := hB2.frozen (by simp [maxLen]) 0
      simp only [List.getElem?_cons_zero] at d0
      have P : Hid _ := WrAt.more K.out.1 K.out.2.1 K.out.2.2.1 K.out.2.2.2.1 ho2 hg2 hn2
      clear ho2 hg2 hn2 hB2 K c0
      go_wp2
      go_roundw
      case rel => exact ⟨k, _, by omega, by go_num, P.out.1, P.out.2.1, P.out.2.2⟩
      case measure => simp [intOf]

set_option maxHeartbeats 1000000 in
theorem rwNum_3 (base g : Nat) (v : Value) (L : List (BitVec 8)) (n : Int) (w : World) (hW : WrAt w base g 83 v L 0) (hL : L.length + 8 ≤ 140737488351232) (h1 : -8388608 ≤ n) (h2 : n ≤ 16777215) :
    Calls Try.prog 42 #[.pointer (some ⟨g, 0, none⟩), .int .i64 3, .int .i64 n] w fun e w' => e = .returned (.tuple #[]) ∧ ∃ v', WrAt w' base g 83 v' (L ++ be 3 (BitVec.ofInt 64 n)) 0 ∧ Newer w v v' ∧ Turned (Mine g v) w w' := by
  have c1 := hW.blk.cell (by simp [maxLen]) 1 (by simp)
  simp only [List.getElem?_cons_zero, List.getElem?_cons_succ] at c1
  have t1 : ¬ n < -8388608 := by omega
  have t2 : ¬ 16777215 < n := by omega
  clear h1 h2
  have hbl := be_length 3 (BitVec.ofInt 64 n) (by omega)
  go_enter Try.func42, Try.ntmps42
  go_wp2_with fail
  go_loopw [8] (fun i wr => ∃ (m : Nat) (v' : Value), m ≤ 3 ∧ i = .int .i64 ((m : Int) - 1) ∧ WrAt wr base g 83 v' (L ++ (be 3 (BitVec.ofInt 64 n)).take (3 - m)) 0 ∧ Newer w v v' ∧ Turned (Mine g v) w wr) (fun i _ => (intOf i + 1).toNat)
  case atStart => exact ⟨3, v, by omega, by rfl, by simpa using hW, fun _ e => .inl e, turned_refl _ _⟩
  case round =>
    obtain ⟨m, v1, hm, rfl, hW1, hN1, hT1⟩ := hrel
    by_cases hm0 : m = 0
    · subst hm0
      rw [List.take_of_length_le (by omega)] at hW1
      have F : Hid _ := And.intro hW1 (And.intro hN1 hT1)
      clear hW1 hN1 hT1 hW c1
      go_wp2
      go_end0
      exact ⟨rfl, v1, F.out.1, F.out.2.1, F.out.2.2⟩
    · obtain ⟨k, rfl⟩ : ∃ k, m = k + 1 := ⟨m - 1, by omega⟩
      have e : (((k + 1 : Nat) : Int) - 1) = (k : Int) := by omega
      rw [e]
      obtain ⟨l, ho, hl⟩ := hW1.own
      have hl' := hl rfl
      subst hl'
      obtain ⟨av, nv, cv, rfl⟩ := own_slice ho
      have c0 := hW1.blk.cell (by simp [maxLen]) 0 (by simp)
      simp only [List.getElem?_cons_zero] at c0
      have hby := byte_be n 3 k (by omega) (by omega)
      have htk : (L ++ (be 3 (BitVec.ofInt 64 n)).take (3 - (k + 1))) ++ [(be 3 (BitVec.ofInt 64 n)).getD (3 - 1 - k) 0#8] = L ++ (be 3 (BitVec.ofInt 64 n)).take (3 - k) := by rw [take_more (be 3 (BitVec.ofInt 64 n)) 3 k hbl (by omega), List.append_assoc]
      have ll : (L ++ (be 3 (BitVec.ofInt 64 n)).take (3 - (k + 1))).length ≤ L.length + 8 := by rw [List.length_append, List.length_take]; omega
      generalize L ++ (be 3 (BitVec.ofInt 64 n)).take (3 - (k + 1)) = P1 at *
      generalize (be 3 (BitVec.ofInt 64 n)).getD (3 - 1 - k) 0#8 = cB at *
      have bA : Below wr.heap.size wr (wr.alloc (.cells #[.int .u8 (n / 2 ^ (8 * k) % 256)] 5)) := (Below.refl _ _).alloc (Nat.le_refl _) _
      have oA := ho.later bA
      have rA : Row (wr.alloc (.cells #[.int .u8 (n / 2 ^ (8 * k) % 256)] 5)) (some ⟨wr.heap.size, 0, none⟩) [cB] := Row.newl _ _ _ _ _ (by rw [hby]; rfl)
      have bW : base ≤ wr.heap.size + 1 := Nat.le_succ_of_le hW1.base_w
      have K : Hid _ := And.intro hW1 (And.intro hN1 (And.intro hT1 (And.intro bA (And.intro oA (And.intro rA htk)))))
      clear hW1 hN1 hT1 ho hl hW c1 bA oA rA htk hby
      go_wp2_with (at_builtin; refine wpList_append_bytes_at _ rfl _ _ rfl base (.slice av nv cv) P1 rfl K.out.2.2.2.2.1 (some ⟨wr.heap.size, 0, none⟩) 1 1 [cB] rfl rfl K.out.2.2.2.2.2.1 (fun h => by cases h) (Nat.le_refl _) (by omega) (by simpa using bW) ?_)
      intro v2 w2 ho2 hg2 hn2
      rw [K.out.2.2.2.2.2.2] at ho2
      obtain ⟨a2, n2, cap2, rfl⟩ := own_slice ho2
      have hB2 := (K.out.1.blk.grown (below_grown K.out.2.2.2.1) (by simp)).grown hg2 (fun e => own_apart K.out.2.2.2.2.1 (K.out.1.blk.grown (below_grown K.out.2.2.2.1) (by simp)) K.out.1.other g e.symm rfl)
      have d0 := hB2.cell (by simp [maxLen]) 0 (by simp)
      have f0 := hB2.frozen (by simp [maxLen]) 0
      simp only [List.getElem?_cons_zero] at d0
      have P : Hid _ := WrAt.more K.out.1 K.out.2.1 K.out.2.2.1 K.out.2.2.2.1 ho2 hg2 hn2
      clear ho2 hg2 hn2 hB2 K c0
      go_wp2
      go_roundw
      case rel => exact ⟨k, _, by omega, by go_num, P.out.1, P.out.2.1, P.out.2.2⟩
      case measure => simp [intOf]

set_option maxHeartbeats 1000000 in
theorem rwNum_4 (base g : Nat) (v : Value) (L : List (BitVec 8)) (n : Int) (w : World) (hW : WrAt w base g 83 v L 0) (hL : L.length + 8 ≤ 140737488351232) (h1 : -2147483648 ≤ n) (h2 : n ≤ 4294967295) :
    Calls Try.prog 42 #[.pointer (some ⟨g, 0, none⟩), .int .i64 4, .int .i64 n] w fun e w' => e = .returned (.tuple #[]) ∧ ∃ v', WrAt w' base g 83 v' (L ++ be 4 (BitVec.ofInt 64 n)) 0 ∧ Newer w v v' ∧ Turned (Mine g v) w w' := by
  have c1 := hW.blk.cell (by simp [maxLen]) 1 (by simp)
  simp only [List.getElem?_cons_zero, List.getElem?_cons_succ] at c1
  have t1 : ¬ n < -2147483648 := by omega
  have t2 : ¬ 4294967295 < n := by omega
  clear h1 h2
  have hbl := be_length 4 (BitVec.ofInt 64 n) (by omega)
  go_enter Try.func42, Try.ntmps42
  go_wp2_with fail
  go_loopw [8] (fun i wr => ∃ (m : Nat) (v' : Value), m ≤ 4 ∧ i = .int .i64 ((m : Int) - 1) ∧ WrAt wr base g 83 v' (L ++ (be 4 (BitVec.ofInt 64 n)).take (4 - m)) 0 ∧ Newer w v v' ∧ Turned (Mine g v) w wr) (fun i _ => (intOf i + 1).toNat)
  case atStart => exact ⟨4, v, by omega, by rfl, by simpa using hW, fun _ e => .inl e, turned_refl _ _⟩
  case round =>
    obtain ⟨m, v1, hm, rfl, hW1, hN1, hT1⟩ := hrel
    by_cases hm0 : m = 0
    · subst hm0
      rw [List.take_of_length_le (by omega)] at hW1
      have F : Hid _ := And.intro hW1 (And.intro hN1 hT1)
      clear hW1 hN1 hT1 hW c1
      go_wp2
      go_end0
      exact ⟨rfl, v1, F.out.1, F.out.2.1, F.out.2.2⟩
    · obtain ⟨k, rfl⟩ : ∃ k, m = k + 1 := ⟨m - 1, by omega⟩
      have e : (((k + 1 : Nat) : Int) - 1) = (k : Int) := by omega
      rw [e]
      obtain ⟨l, ho, hl⟩ := hW1.own
      have hl' := hl rfl
      subst hl'
      obtain ⟨av, nv, cv, rfl⟩ := own_slice ho
      have c0 := hW1.blk.cell (by simp [maxLen]) 0 (by simp)
      simp only [List.getElem?_cons_zero] at c0
      have hby := byte_be n 4 k (by omega) (by omega)
      have htk : (L ++ (be 4 (BitVec.ofInt 64 n)).take (4 - (k + 1))) ++ [(be 4 (BitVec.ofInt 64 n)).getD (4 - 1 - k) 0#8] = L ++ (be 4 (BitVec.ofInt 64 n)).take (4 - k) := by rw [take_more (be 4 (BitVec.ofInt 64 n)) 4 k hbl (by omega), List.append_assoc]
      have ll : (L ++ (be 4 (BitVec.ofInt 64 n)).take (4 - (k + 1))).length ≤ L.length + 8 := by rw [List.length_append, List.length_take]; omega
      generalize L ++ (be 4 (BitVec.ofInt 64 n)).take (4 - (k + 1)) = P1 at *
      generalize (be 4 (BitVec.ofInt 64 n)).getD (4 - 1 - k) 0#8 = cB at *
      have bA : Below wr.heap.size wr (wr.alloc (.cells #[.int .u8 (n / 2 ^ (8 * k) % 256)] 5)) := (Below.refl _ _).alloc (Nat.le_refl _) _
      have oA := ho.later bA
      have rA : Row (wr.alloc (.cells #[.int .u8 (n / 2 ^ (8 * k) % 256)] 5)) (some ⟨wr.heap.size, 0, none⟩) [cB] := Row.newl _ _ _ _ _ (by rw [hby]; rfl)
      have bW : base ≤ wr.heap.size + 1 := Nat.le_succ_of_le hW1.base_w
      have K : Hid _ := And.intro hW1 (And.intro hN1 (And.intro hT1 (And.intro bA (And.intro oA (And.intro rA htk)))))
      clear hW1 hN1 hT1 ho hl hW c1 bA oA rA htk hby
      go_wp2_with (at_builtin; refine wpList_append_bytes_at _ rfl _ _ rfl base (.slice av nv cv) P1 rfl K.out.2.2.2.2.1 (some ⟨wr.heap.size, 0, none⟩) 1 1 [cB] rfl rfl K.out.2.2.2.2.2.1 (fun h => by cases h) (Nat.le_refl _) (by omega) (by simpa using bW) ?_)
      intro v2 w2 ho2 hg2 hn2
      rw [K.out.2.2.2.2.2.2] at ho2
      obtain ⟨a2, n2, cap2, rfl⟩ := own_slice ho2
      have hB2 := (K.out.1.blk.grown (below_grown K.out.2.2.2.1) (by simp)).grown hg2 (fun e => own_apart K.out.2.2.2.2.1 (K.out.1.blk.grown (below_grown K.out.2.2.2.1) (by simp)) K.out.1.other g e.symm rfl)
      have d0 := hB2.cell (by simp [maxLen]) 0 (by simp)
      have f0 := hB2.frozen (by simp [maxLen]) 0
      simp only [List.getElem?_cons_zero] at d0
      have P : Hid _ := WrAt.more K.out.1 K.out.2.1 K.out.2.2.1 K.out.2.2.2.1 ho2 hg2 hn2
      clear ho2 hg2 hn2 hB2 K c0
      go_wp2
      go_roundw
      case rel => exact ⟨k, _, by omega, by go_num, P.out.1, P.out.2.1, P.out.2.2⟩
      case measure => simp [intOf]

set_option maxHeartbeats 1000000 in
theorem rwNum_5 (base g : Nat) (v : Value) (L : List (BitVec 8)) (n : Int) (w : World) (hW : WrAt w base g 83 v L 0) (hL : L.length + 8 ≤ 140737488351232) (h1 : -549755813888 ≤ n) (h2 : n ≤ 1099511627775) :
    Calls Try.prog 42 #[.pointer (some ⟨g, 0, none⟩), .int .i64 5, .int .i64 n] w fun e w' => e = .returned (.tuple #[]) ∧ ∃ v', WrAt w' base g 83 v' (L ++ be 5 (BitVec.ofInt 64 n)) 0 ∧ Newer w v v' ∧ Turned (Mine g v) w w' := by
  have c1 := hW.blk.cell (by simp [maxLen]) 1 (by simp)
  simp only [List.getElem?_cons_zero, List.getElem?_cons_succ] at c1
  have t1 : ¬ n < -549755813888 := by omega
  have t2 : ¬ 1099511627775 < n := by omega
  clear h1 h2
  have hbl := be_length 5 (BitVec.ofInt 64 n) (by omega)
  go_enter Try.func42, Try.ntmps42
  go_wp2_with fail
  go_loopw [8] (fun i wr => ∃ (m : Nat) (v' : Value), m ≤ 5 ∧ i = .int .i64 ((m : Int) - 1) ∧ WrAt wr base g 83 v' (L ++ (be 5 (BitVec.ofInt 64 n)).take (5 - m)) 0 ∧ Newer w v v' ∧ Turned (Mine g v) w wr) (fun i _ => (intOf i + 1).toNat)
  case atStart => exact ⟨5, v, by omega, by rfl, by simpa using hW, fun _ e => .inl e, turned_refl _ _⟩
  case round =>
    obtain ⟨m, v1, hm, rfl, hW1, hN1, hT1⟩ := hrel
    by_cases hm0 : m = 0
    · subst hm0
      rw [List.take_of_length_le (by omega)] at hW1
      have F : Hid _ := And.intro hW1 (And.intro hN1 hT1)
      clear hW1 hN1 hT1 hW c1
      go_wp2
      go_end0
      exact ⟨rfl, v1, F.out.1, F.out.2.1, F.out.2.2⟩
    · obtain ⟨k, rfl⟩ : ∃ k, m = k + 1 := ⟨m - 1, by omega⟩
      have e : (((k + 1 : Nat) : Int) - 1) = (k : Int) := by omega
      rw [e]
      obtain ⟨l, ho, hl⟩ := hW1.own
      have hl' := hl rfl
      subst hl'
      obtain ⟨av, nv, cv, rfl⟩ := own_slice ho
      have c0 := hW1.blk.cell (by simp [maxLen]) 0 (by simp)
      simp only [List.getElem?_cons_zero] at c0
      have hby := byte_be n 5 k (by omega) (by omega)
      have htk : (L ++ (be 5 (BitVec.ofInt 64 n)).take (5 - (k + 1))) ++ [(be 5 (BitVec.ofInt 64 n)).getD (5 - 1 - k) 0#8] = L ++ (be 5 (BitVec.ofInt 64 n)).take (5 - k) := by rw [take_more (be 5 (BitVec.ofInt 64 n)) 5 k hbl (by omega), List.append_assoc]
      have ll : (L ++ (be 5 (BitVec.ofInt 64 n)).take (5 - (k + 1))).length ≤ L.length + 8 := by rw [List.length_append, List.length_take]; omega
      generalize L ++ (be 5 (BitVec.ofInt 64 n)).take (5 - (k + 1)) = P1 at *
      generalize (be 5 (BitVec.ofInt 64 n)).getD (5 - 1 - k) 0#8 = cB at *
      have bA : Below wr.heap.size wr (wr.alloc (.cells #[.int .u8 (n / 2 ^ (8 * k) % 256)] 5)) := (Below.refl _ _).alloc (Nat.le_refl _) _
      have oA := ho.later bA
      have rA : Row (wr.alloc (.cells #[.int .u8 (n / 2 ^ (8 * k) % 256)] 5)) (some ⟨wr.heap.size, 0, none⟩) [cB] := Row.newl _ _ _ _ _ (by rw [hby]; rfl)
      have bW : base ≤ wr.heap.size + 1 := Nat.le_succ_of_le hW1.base_w
      have K : Hid _ := And.intro hW1 (And.intro hN1 (And.intro hT1 (And.intro bA (And.intro oA (And.intro rA htk)))))
      clear hW1 hN1 hT1 ho hl hW c1 bA oA rA htk hby
      go_wp2_with (at_builtin; refine wpList_append_bytes_at _ rfl _ _ rfl base (.slice av nv cv) P1 rfl K.out.2.2.2.2.1 (some ⟨wr.heap.size, 0, none⟩) 1 1 [cB] rfl rfl K.out.2.2.2.2.2.1 (fun h => by cases h) (Nat.le_refl _) (by omega) (by simpa using bW) ?_)
      intro v2 w2 ho2 hg2 hn2
      rw [K.out.2.2.2.2.2.2] at ho2
      obtain ⟨a2, n2, cap2, rfl⟩ := own_slice ho2
      have hB2 := (K.out.1.blk.grown (below_grown K.out.2.2.2.1) (by simp)).grown hg2 (fun e => own_apart K.out.2.2.2.2.1 (K.out.1.blk.grown (below_grown K.out.2.2.2.1) (by simp)) K.out.1.other g e.symm rfl)
      have d0 := hB2.cell (by simp [maxLen]) 0 (by simp)
      have f0 := hB2.frozen (by simp [maxLen]) 0
      simp only [List.getElem?_cons_zero] at d0
      have P : Hid _ := WrAt.more K.out.1 K.out.2.1 K.out.2.2.1 K.out.2.2.2.1 ho2 hg2 hn2
      clear ho2 hg2 hn2 hB2 K c0
      go_wp2
      go_roundw
      case rel => exact ⟨k, _, by omega, by go_num, P.out.1, P.out.2.1, P.out.2.2⟩
      case measure => simp [intOf]

set_option maxHeartbeats 1000000 in
theorem rwNum_6 (base g : Nat) (v : Value) (L : List (BitVec 8)) (n : Int) (w : World) (hW : WrAt w base g 83 v L 0) (hL : L.length + 8 ≤ 140737488351232) (h1 : -140737488355328 ≤ n) (h2 : n ≤ 281474976710655) :
    Calls Try.prog 42 #[.pointer (some ⟨g, 0, none⟩), .int .i64 6, .int .i64 n] w fun e w' => e = .returned (.tuple #[]) ∧ ∃ v', WrAt w' base g 83 v' (L ++ be 6 (BitVec.ofInt 64 n)) 0 ∧ Newer w v v' ∧ Turned (Mine g v) w w' := by
  have c1 := hW.blk.cell (by simp [maxLen]) 1 (by simp)
  simp only [List.getElem?_cons_zero, List.getElem?_cons_succ] at c1
  have t1 : ¬ n < -140737488355328 := by omega
  have t2 : ¬ 281474976710655 < n := by omega
  clear h1 h2
  have hbl := be_length 6 (BitVec.ofInt 64 n) (by omega)
  go_enter Try.func42, Try.ntmps42
  go_wp2_with fail
  go_loopw [8] (fun i wr => ∃ (m : Nat) (v' : Value), m ≤ 6 ∧ i = .int .i64 ((m : Int) - 1) ∧ WrAt wr base g 83 v' (L ++ (be 6 (BitVec.ofInt 64 n)).take (6 - m)) 0 ∧ Newer w v v' ∧ Turned (Mine g v) w wr) (fun i _ => (intOf i + 1).toNat)
  case atStart => exact ⟨6, v, by omega, by rfl, by simpa using hW, fun _ e => .inl e, turned_refl _ _⟩
  case round =>
    obtain ⟨m, v1, hm, rfl, hW1, hN1, hT1⟩ := hrel
    by_cases hm0 : m = 0
    · subst hm0
      rw [List.take_of_length_le (by omega)] at hW1
      have F : Hid _ := And.intro hW1 (And.intro hN1 hT1)
      clear hW1 hN1 hT1 hW c1
      go_wp2
      go_end0
      exact ⟨rfl, v1, F.out.1, F.out.2.1, F.out.2.2⟩
    · obtain ⟨k, rfl⟩ : ∃ k, m = k + 1 := ⟨m - 1, by omega⟩
      have e : (((k + 1 : Nat) : Int) - 1) = (k : Int) := by omega
      rw [e]
      obtain ⟨l, ho, hl⟩ := hW1.own
      have hl' := hl rfl
      subst hl'
      obtain ⟨av, nv, cv, rfl⟩ := own_slice ho
      have c0 := hW1.blk.cell (by simp [maxLen]) 0 (by simp)
      simp only [List.getElem?_cons_zero] at c0
      have hby := byte_be n 6 k (by omega) (by omega)
      have htk : (L ++ (be 6 (BitVec.ofInt 64 n)).take (6 - (k + 1))) ++ [(be 6 (BitVec.ofInt 64 n)).getD (6 - 1 - k) 0#8] = L ++ (be 6 (BitVec.ofInt 64 n)).take (6 - k) := by rw [take_more (be 6 (BitVec.ofInt 64 n)) 6 k hbl (by omega), List.append_assoc]
      have ll : (L ++ (be 6 (BitVec.ofInt 64 n)).take (6 - (k + 1))).length ≤ L.length + 8 := by rw [List.length_append, List.length_take]; omega
      generalize L ++ (be 6 (BitVec.ofInt 64 n)).take (6 - (k + 1)) = P1 at *
      generalize (be 6 (BitVec.ofInt 64 n)).getD (6 - 1 - k) 0#8 = cB at *
      have bA : Below wr.heap.size wr (wr.alloc (.cells #[.int .u8 (n / 2 ^ (8 * k) % 256)] 5)) := (Below.refl _ _).alloc (Nat.le_refl _) _
      have oA := ho.later bA
      have rA : Row (wr.alloc (.cells #[.int .u8 (n / 2 ^ (8 * k) % 256)] 5)) (some ⟨wr.heap.size, 0, none⟩) [cB] := Row.newl _ _ _ _ _ (by rw [hby]; rfl)
      have bW : base ≤ wr.heap.size + 1 := Nat.le_succ_of_le hW1.base_w
      have K : Hid _ := And.intro hW1 (And.intro hN1 (And.intro hT1 (And.intro bA (And.intro oA (And.intro rA htk)))))
      clear hW1 hN1 hT1 ho hl hW c1 bA oA rA htk hby
      go_wp2_with (at_builtin; refine wpList_append_bytes_at _ rfl _ _ rfl base (.slice av nv cv) P1 rfl K.out.2.2.2.2.1 (some ⟨wr.heap.size, 0, none⟩) 1 1 [cB] rfl rfl K.out.2.2.2.2.2.1 (fun h => by cases h) (Nat.le_refl _) (by omega) (by simpa using bW) ?_)
      intro v2 w2 ho2 hg2 hn2
      rw [K.out.2.2.2.2.2.2] at ho2
      obtain ⟨a2, n2, cap2, rfl⟩ := own_slice ho2
      have hB2 := (K.out.1.blk.grown (below_grown K.out.2.2.2.1) (by simp)).grown hg2 (fun e => own_apart K.out.2.2.2.2.1 (K.out.1.blk.grown (below_grown K.out.2.2.2.1) (by simp)) K.out.1.other g e.symm rfl)
      have d0 := hB2.cell (by simp [maxLen]) 0 (by simp)
      have f0 := hB2.frozen (by simp [maxLen]) 0
      simp only [List.getElem?_cons_zero] at d0
      have P : Hid _ := WrAt.more K.out.1 K.out.2.1 K.out.2.2.1 K.out.2.2.2.1 ho2 hg2 hn2
      clear ho2 hg2 hn2 hB2 K c0
      go_wp2
      go_roundw
      case rel => exact ⟨k, _, by omega, by go_num, P.out.1, P.out.2.1, P.out.2.2⟩
      case measure => simp [intOf]

set_option maxHeartbeats 1000000 in
theorem rwNum_7 (base g : Nat) (v : Value) (L : List (BitVec 8)) (n : Int) (w : World) (hW : WrAt w base g 83 v L 0) (hL : L.length + 8 ≤ 140737488351232) (h1 : -36028797018963968 ≤ n) (h2 : n ≤ 72057594037927935) :
    Calls Try.prog 42 #[.pointer (some ⟨g, 0, none⟩), .int .i64 7, .int .i64 n] w fun e w' => e = .returned (.tuple #[]) ∧ ∃ v', WrAt w' base g 83 v' (L ++ be 7 (BitVec.ofInt 64 n)) 0 ∧ Newer w v v' ∧ Turned (Mine g v) w w' := by
  have c1 := hW.blk.cell (by simp [maxLen]) 1 (by simp)
  simp only [List.getElem?_cons_zero, List.getElem?_cons_succ] at c1
  have t1 : ¬ n < -36028797018963968 := by omega
  have t2 : ¬ 72057594037927935 < n := by omega
  clear h1 h2
  have hbl := be_length 7 (BitVec.ofInt 64 n) (by omega)
  go_enter Try.func42, Try.ntmps42
  go_wp2_with fail
  go_loopw [8] (fun i wr => ∃ (m : Nat) (v' : Value), m ≤ 7 ∧ i = .int .i64 ((m : Int) - 1) ∧ WrAt wr base g 83 v' (L ++ (be 7 (BitVec.ofInt 64 n)).take (7 - m)) 0 ∧ Newer w v v' ∧ Turned (Mine g v) w wr) (fun i _ => (intOf i + 1).toNat)
  case atStart => exact ⟨7, v, by omega, by rfl, by simpa using hW, fun _ e => .inl e, turned_refl _ _⟩
  case round =>
    obtain ⟨m, v1, hm, rfl, hW1, hN1, hT1⟩ := hrel
    by_cases hm0 : m = 0
    · subst hm0
      rw [List.take_of_length_le (by omega)] at hW1
      have F : Hid _ := And.intro hW1 (And.intro hN1 hT1)
      clear hW1 hN1 hT1 hW c1
      go_wp2
      go_end0
      exact ⟨rfl, v1, F.out.1, F.out.2.1, F.out.2.2⟩
    · obtain ⟨k, rfl⟩ : ∃ k, m = k + 1 := ⟨m - 1, by omega⟩
      have e : (((k + 1 : Nat) : Int) - 1) = (k : Int) := by omega
      rw [e]
      obtain ⟨l, ho, hl⟩ := hW1.own
      have hl' := hl rfl
      subst hl'
      obtain ⟨av, nv, cv, rfl⟩ := own_slice ho
      have c0 := hW1.blk.cell (by simp [maxLen]) 0 (by simp)
      simp only [List.getElem?_cons_zero] at c0
      have hby := byte_be n 7 k (by omega) (by omega)
      have htk : (L ++ (be 7 (BitVec.ofInt 64 n)).take (7 - (k + 1))) ++ [(be 7 (BitVec.ofInt 64 n)).getD (7 - 1 - k) 0#8] = L ++ (be 7 (BitVec.ofInt 64 n)).take (7 - k) := by rw [take_more (be 7 (BitVec.ofInt 64 n)) 7 k hbl (by omega), List.append_assoc]
      have ll : (L ++ (be 7 (BitVec.ofInt 64 n)).take (7 - (k + 1))).length ≤ L.length + 8 := by rw [List.length_append, List.length_take]; omega
      generalize L ++ (be 7 (BitVec.ofInt 64 n)).take (7 - (k + 1)) = P1 at *
      generalize (be 7 (BitVec.ofInt 64 n)).getD (7 - 1 - k) 0#8 = cB at *
      have bA : Below wr.heap.size wr (wr.alloc (.cells #[.int .u8 (n / 2 ^ (8 * k) % 256)] 5)) := (Below.refl _ _).alloc (Nat.le_refl _) _
      have oA := ho.later bA
      have rA : Row (wr.alloc (.cells #[.int .u8 (n / 2 ^ (8 * k) % 256)] 5)) (some ⟨wr.heap.size, 0, none⟩) [cB] := Row.newl _ _ _ _ _ (by rw [hby]; rfl)
      have bW : base ≤ wr.heap.size + 1 := Nat.le_succ_of_le hW1.base_w
      have K : Hid _ := And.intro hW1 (And.intro hN1 (And.intro hT1 (And.intro bA (And.intro oA (And.intro rA htk)))))
      clear hW1 hN1 hT1 ho hl hW c1 bA oA rA htk hby
      go_wp2_with (at_builtin; refine wpList_append_bytes_at _ rfl _ _ rfl base (.slice av nv cv) P1 rfl K.out.2.2.2.2.1 (some ⟨wr.heap.size, 0, none⟩) 1 1 [cB] rfl rfl K.out.2.2.2.2.2.1 (fun h => by cases h) (Nat.le_refl _) (by omega) (by simpa using bW) ?_)
      intro v2 w2 ho2 hg2 hn2
      rw [K.out.2.2.2.2.2.2] at ho2
      obtain ⟨a2, n2, cap2, rfl⟩ := own_slice ho2
      have hB2 := (K.out.1.blk.grown (below_grown K.out.2.2.2.1) (by simp)).grown hg2 (fun e => own_apart K.out.2.2.2.2.1 (K.out.1.blk.grown (below_grown K.out.2.2.2.1) (by simp)) K.out.1.other g e.symm rfl)
      have d0 := hB2.cell (by simp [maxLen]) 0 (by simp)
      have f0 := hB2.frozen (by simp [maxLen]) 0
      simp only [List.getElem?_cons_zero] at d0
      have P : Hid _ := WrAt.more K.out.1 K.out.2.1 K.out.2.2.1 K.out.2.2.2.1 ho2 hg2 hn2
      clear ho2 hg2 hn2 hB2 K c0
      go_wp2
      go_roundw
      case rel => exact ⟨k, _, by omega, by go_num, P.out.1, P.out.2.1, P.out.2.2⟩
      case measure => simp [intOf]

set_option maxHeartbeats 1000000 in
theorem rwNum_8 (base g : Nat) (v : Value) (L : List (BitVec 8)) (n : Int) (w : World) (hW : WrAt w base g 83 v L 0) (hL : L.length + 8 ≤ 140737488351232)  :
    Calls Try.prog 42 #[.pointer (some ⟨g, 0, none⟩), .int .i64 8, .int .i64 n] w fun e w' => e = .returned (.tuple #[]) ∧ ∃ v', WrAt w' base g 83 v' (L ++ be 8 (BitVec.ofInt 64 n)) 0 ∧ Newer w v v' ∧ Turned (Mine g v) w w' := by
  have c1 := hW.blk.cell (by simp [maxLen]) 1 (by simp)
  simp only [List.getElem?_cons_zero, List.getElem?_cons_succ] at c1
  have hbl := be_length 8 (BitVec.ofInt 64 n) (by omega)
  go_enter Try.func42, Try.ntmps42
  go_wp2_with fail
  go_loopw [8] (fun i wr => ∃ (m : Nat) (v' : Value), m ≤ 8 ∧ i = .int .i64 ((m : Int) - 1) ∧ WrAt wr base g 83 v' (L ++ (be 8 (BitVec.ofInt 64 n)).take (8 - m)) 0 ∧ Newer w v v' ∧ Turned (Mine g v) w wr) (fun i _ => (intOf i + 1).toNat)
  case atStart => exact ⟨8, v, by omega, by rfl, by simpa using hW, fun _ e => .inl e, turned_refl _ _⟩
  case round =>
    obtain ⟨m, v1, hm, rfl, hW1, hN1, hT1⟩ := hrel
    by_cases hm0 : m = 0
    · subst hm0
      rw [List.take_of_length_le (by omega)] at hW1
      have F : Hid _ := And.intro hW1 (And.intro hN1 hT1)
      clear hW1 hN1 hT1 hW c1
      go_wp2
      go_end0
      exact ⟨rfl, v1, F.out.1, F.out.2.1, F.out.2.2⟩
    · obtain ⟨k, rfl⟩ : ∃ k, m = k + 1 := ⟨m - 1, by omega⟩
      have e : (((k + 1 : Nat) : Int) - 1) = (k : Int) := by omega
      rw [e]
      obtain ⟨l, ho, hl⟩ := hW1.own
      have hl' := hl rfl
      subst hl'
      obtain ⟨av, nv, cv, rfl⟩ := own_slice ho
      have c0 := hW1.blk.cell (by simp [maxLen]) 0 (by simp)
      simp only [List.getElem?_cons_zero] at c0
      have hby := byte_be n 8 k (by omega) (by omega)
      have htk : (L ++ (be 8 (BitVec.ofInt 64 n)).take (8 - (k + 1))) ++ [(be 8 (BitVec.ofInt 64 n)).getD (8 - 1 - k) 0#8] = L ++ (be 8 (BitVec.ofInt 64 n)).take (8 - k) := by rw [take_more (be 8 (BitVec.ofInt 64 n)) 8 k hbl (by omega), List.append_assoc]
      have ll : (L ++ (be 8 (BitVec.ofInt 64 n)).take (8 - (k + 1))).length ≤ L.length + 8 := by rw [List.length_append, List.length_take]; omega
      generalize L ++ (be 8 (BitVec.ofInt 64 n)).take (8 - (k + 1)) = P1 at *
      generalize (be 8 (BitVec.ofInt 64 n)).getD (8 - 1 - k) 0#8 = cB at *
      have bA : Below wr.heap.size wr (wr.alloc (.cells #[.int .u8 (n / 2 ^ (8 * k) % 256)] 5)) := (Below.refl _ _).alloc (Nat.le_refl _) _
      have oA := ho.later bA
      have rA : Row (wr.alloc (.cells #[.int .u8 (n / 2 ^ (8 * k) % 256)] 5)) (some ⟨wr.heap.size, 0, none⟩) [cB] := Row.newl _ _ _ _ _ (by rw [hby]; rfl)
      have bW : base ≤ wr.heap.size + 1 := Nat.le_succ_of_le hW1.base_w
      have K : Hid _ := And.intro hW1 (And.intro hN1 (And.intro hT1 (And.intro bA (And.intro oA (And.intro rA htk)))))
      clear hW1 hN1 hT1 ho hl hW c1 bA oA rA htk hby
      go_wp2_with (at_builtin; refine wpList_append_bytes_at _ rfl _ _ rfl base (.slice av nv cv) P1 rfl K.out.2.2.2.2.1 (some ⟨wr.heap.size, 0, none⟩) 1 1 [cB] rfl rfl K.out.2.2.2.2.2.1 (fun h => by cases h) (Nat.le_refl _) (by omega) (by simpa using bW) ?_)
      intro v2 w2 ho2 hg2 hn2
      rw [K.out.2.2.2.2.2.2] at ho2
      obtain ⟨a2, n2, cap2, rfl⟩ := own_slice ho2
      have hB2 := (K.out.1.blk.grown (below_grown K.out.2.2.2.1) (by simp)).grown hg2 (fun e => own_apart K.out.2.2.2.2.1 (K.out.1.blk.grown (below_grown K.out.2.2.2.1) (by simp)) K.out.1.other g e.symm rfl)
      have d0 := hB2.cell (by simp [maxLen]) 0 (by simp)
      have f0 := hB2.frozen (by simp [maxLen]) 0
      simp only [List.getElem?_cons_zero] at d0
      have P : Hid _ := WrAt.more K.out.1 K.out.2.1 K.out.2.2.1 K.out.2.2.2.1 ho2 hg2 hn2
      clear ho2 hg2 hn2 hB2 K c0
      go_wp2
      go_roundw
      case rel => exact ⟨k, _, by omega, by go_num, P.out.1, P.out.2.1, P.out.2.2⟩
      case measure => simp [intOf]

/-- an error is set; the bytes stay -/
theorem WrAt.err {w : World} {base g T : Nat} {v : Value} {L : List (BitVec 8)} {E E' : Int} (h : WrAt w base g T v L E) (hE : E' ≠ 0) :
    ∃ v', WrAt (w.setCell ⟨g, 1, none⟩ (.int .i64 E')) base g T v' [] E' ∧ Newer w v v' ∧ Turned (Mine g v) w (w.setCell ⟨g, 1, none⟩ (.int .i64 E')) := by
  obtain ⟨hB, ⟨l, ho, hl⟩, hb, hw, hT⟩ := h
  have hG := grown_set w g 1 (.int .i64 E')
  refine ⟨v, ⟨hB.set 1 (.int .i64 E'), ⟨l, ho.keep hG (fun k hk e => ?_), fun e => absurd e hE⟩, hb, Nat.le_trans hw hG.size, hT⟩, fun _ e => .inl e, turned_grown hG (fun k e => .inl (by simpa using e.symm))⟩
  exact own_apart ho hB hT k hk (by simpa using e)

set_option maxHeartbeats 400000 in
theorem rwNum_no1 (base g : Nat) (v : Value) (L : List (BitVec 8)) (n : Int) (w : World) (hW : WrAt w base g 83 v L 0) (h : n < -128 ∨ 255 < n) :
    Calls Try.prog 42 #[.pointer (some ⟨g, 0, none⟩), .int .i64 1, .int .i64 n] w fun e w' => e = .returned (.tuple #[]) ∧ ∃ v', WrAt w' base g 83 v' [] 3 ∧ Newer w v v' ∧ Turned (Mine g v) w w' := by
  have c1 := hW.blk.cell (by simp [maxLen]) 1 (by simp)
  have f1 := hW.blk.frozen (by simp [maxLen]) 1
  simp only [List.getElem?_cons_zero, List.getElem?_cons_succ] at c1
  have P : Hid _ := hW.err (show (3 : Int) ≠ 0 by decide)
  clear hW
  by_cases h1 : n < -128
  · clear h
    go_enter Try.func42, Try.ntmps42
    go_wp2
    refine bodyPost_ret (results_none rfl _ _ _) rfl ?_
    exact ⟨rfl, P.out⟩
  · have h2 : 255 < n := by omega
    clear h
    go_enter Try.func42, Try.ntmps42
    go_wp2
    refine bodyPost_ret (results_none rfl _ _ _) rfl ?_
    exact ⟨rfl, P.out⟩

set_option maxHeartbeats 400000 in
theorem rwNum_no2 (base g : Nat) (v : Value) (L : List (BitVec 8)) (n : Int) (w : World) (hW : WrAt w base g 83 v L 0) (h : n < -32768 ∨ 65535 < n) :
    Calls Try.prog 42 #[.pointer (some ⟨g, 0, none⟩), .int .i64 2, .int .i64 n] w fun e w' => e = .returned (.tuple #[]) ∧ ∃ v', WrAt w' base g 83 v' [] 3 ∧ Newer w v v' ∧ Turned (Mine g v) w w' := by
  have c1 := hW.blk.cell (by simp [maxLen]) 1 (by simp)
  have f1 := hW.blk.frozen (by simp [maxLen]) 1
  simp only [List.getElem?_cons_zero, List.getElem?_cons_succ] at c1
  have P : Hid _ := hW.err (show (3 : Int) ≠ 0 by decide)
  clear hW
  by_cases h1 : n < -32768
  · clear h
    go_enter Try.func42, Try.ntmps42
    go_wp2
    refine bodyPost_ret (results_none rfl _ _ _) rfl ?_
    exact ⟨rfl, P.out⟩
  · have h2 : 65535 < n := by omega
    clear h
    go_enter Try.func42, Try.ntmps42
    go_wp2
    refine bodyPost_ret (results_none rfl _ _ _) rfl ?_
    exact ⟨rfl, P.out⟩

set_option maxHeartbeats 400000 in
theorem rwNum_no3 (base g : Nat) (v : Value) (L : List (BitVec 8)) (n : Int) (w : World) (hW : WrAt w base g 83 v L 0) (h : n < -8388608 ∨ 16777215 < n) :
    Calls Try.prog 42 #[.pointer (some ⟨g, 0, none⟩), .int .i64 3, .int .i64 n] w fun e w' => e = .returned (.tuple #[]) ∧ ∃ v', WrAt w' base g 83 v' [] 3 ∧ Newer w v v' ∧ Turned (Mine g v) w w' := by
  have c1 := hW.blk.cell (by simp [maxLen]) 1 (by simp)
  have f1 := hW.blk.frozen (by simp [maxLen]) 1
  simp only [List.getElem?_cons_zero, List.getElem?_cons_succ] at c1
  have P : Hid _ := hW.err (show (3 : Int) ≠ 0 by decide)
  clear hW
  by_cases h1 : n < -8388608
  · clear h
    go_enter Try.func42, Try.ntmps42
    go_wp2
    refine bodyPost_ret (results_none rfl _ _ _) rfl ?_
    exact ⟨rfl, P.out⟩
  · have h2 : 16777215 < n := by omega
    clear h
    go_enter Try.func42, Try.ntmps42
    go_wp2
    refine bodyPost_ret (results_none rfl _ _ _) rfl ?_
    exact ⟨rfl, P.out⟩

set_option maxHeartbeats 400000 in
theorem rwNum_no4 (base g : Nat) (v : Value) (L : List (BitVec 8)) (n : Int) (w : World) (hW : WrAt w base g 83 v L 0) (h : n < -2147483648 ∨ 4294967295 < n) :
    Calls Try.prog 42 #[.pointer (some ⟨g, 0, none⟩), .int .i64 4, .int .i64 n] w fun e w' => e = .returned (.tuple #[]) ∧ ∃ v', WrAt w' base g 83 v' [] 3 ∧ Newer w v v' ∧ Turned (Mine g v) w w' := by
  have c1 := hW.blk.cell (by simp [maxLen]) 1 (by simp)
  have f1 := hW.blk.frozen (by simp [maxLen]) 1
  simp only [List.getElem?_cons_zero, List.getElem?_cons_succ] at c1
  have P : Hid _ := hW.err (show (3 : Int) ≠ 0 by decide)
  clear hW
  by_cases h1 : n < -2147483648
  · clear h
    go_enter Try.func42, Try.ntmps42
    go_wp2
    refine bodyPost_ret (results_none rfl _ _ _) rfl ?_
    exact ⟨rfl, P.out⟩
  · have h2 : 4294967295 < n := by omega
    clear h
    go_enter Try.func42, Try.ntmps42
    go_wp2
    refine bodyPost_ret (results_none rfl _ _ _) rfl ?_
    exact ⟨rfl, P.out⟩

set_option maxHeartbeats 400000 in
theorem rwNum_no5 (base g : Nat) (v : Value) (L : List (BitVec 8)) (n : Int) (w : World) (hW : WrAt w base g 83 v L 0) (h : n < -549755813888 ∨ 1099511627775 < n) :
    Calls Try.prog 42 #[.pointer (some ⟨g, 0, none⟩), .int .i64 5, .int .i64 n] w fun e w' => e = .returned (.tuple #[]) ∧ ∃ v', WrAt w' base g 83 v' [] 3 ∧ Newer w v v' ∧ Turned (Mine g v) w w' := by
  have c1 := hW.blk.cell (by simp [maxLen]) 1 (by simp)
  have f1 := hW.blk.frozen (by simp [maxLen]) 1
  simp only [List.getElem?_cons_zero, List.getElem?_cons_succ] at c1
  have P : Hid _ := hW.err (show (3 : Int) ≠ 0 by decide)
  clear hW
  by_cases h1 : n < -549755813888
  · clear h
    go_enter Try.func42, Try.ntmps42
    go_wp2
    refine bodyPost_ret (results_none rfl _ _ _) rfl ?_
    exact ⟨rfl, P.out⟩
  · have h2 : 1099511627775 < n := by omega
    clear h
    go_enter Try.func42, Try.ntmps42
    go_wp2
    refine bodyPost_ret (results_none rfl _ _ _) rfl ?_
    exact ⟨rfl, P.out⟩

set_option maxHeartbeats 400000 in
theorem rwNum_no6 (base g : Nat) (v : Value) (L : List (BitVec 8)) (n : Int) (w : World) (hW : WrAt w base g 83 v L 0) (h : n < -140737488355328 ∨ 281474976710655 < n) :
    Calls Try.prog 42 #[.pointer (some ⟨g, 0, none⟩), .int .i64 6, .int .i64 n] w fun e w' => e = .returned (.tuple #[]) ∧ ∃ v', WrAt w' base g 83 v' [] 3 ∧ Newer w v v' ∧ Turned (Mine g v) w w' := by
  have c1 := hW.blk.cell (by simp [maxLen]) 1 (by simp)
  have f1 := hW.blk.frozen (by simp [maxLen]) 1
  simp only [List.getElem?_cons_zero, List.getElem?_cons_succ] at c1
  have P : Hid _ := hW.err (show (3 : Int) ≠ 0 by decide)
  clear hW
  by_cases h1 : n < -140737488355328
  · clear h
    go_enter Try.func42, Try.ntmps42
    go_wp2
    refine bodyPost_ret (results_none rfl _ _ _) rfl ?_
    exact ⟨rfl, P.out⟩
  · have h2 : 281474976710655 < n := by omega
    clear h
    go_enter Try.func42, Try.ntmps42
    go_wp2
    refine bodyPost_ret (results_none rfl _ _ _) rfl ?_
    exact ⟨rfl, P.out⟩

set_option maxHeartbeats 400000 in
theorem rwNum_no7 (base g : Nat) (v : Value) (L : List (BitVec 8)) (n : Int) (w : World) (hW : WrAt w base g 83 v L 0) (h : n < -36028797018963968 ∨ 72057594037927935 < n) :
    Calls Try.prog 42 #[.pointer (some ⟨g, 0, none⟩), .int .i64 7, .int .i64 n] w fun e w' => e = .returned (.tuple #[]) ∧ ∃ v', WrAt w' base g 83 v' [] 3 ∧ Newer w v v' ∧ Turned (Mine g v) w w' := by
  have c1 := hW.blk.cell (by simp [maxLen]) 1 (by simp)
  have f1 := hW.blk.frozen (by simp [maxLen]) 1
  simp only [List.getElem?_cons_zero, List.getElem?_cons_succ] at c1
  have P : Hid _ := hW.err (show (3 : Int) ≠ 0 by decide)
  clear hW
  by_cases h1 : n < -36028797018963968
  · clear h
    go_enter Try.func42, Try.ntmps42
    go_wp2
    refine bodyPost_ret (results_none rfl _ _ _) rfl ?_
    exact ⟨rfl, P.out⟩
  · have h2 : 72057594037927935 < n := by omega
    clear h
    go_enter Try.func42, Try.ntmps42
    go_wp2
    refine bodyPost_ret (results_none rfl _ _ _) rfl ?_
    exact ⟨rfl, P.out⟩

set_option maxHeartbeats 400000 in
theorem rwNum_arg (base g : Nat) (v : Value) (L : List (BitVec 8)) (size n : Int) (w : World) (hW : WrAt w base g 83 v L 0) (h : size < 1 ∨ 8 < size) :
    Calls Try.prog 42 #[.pointer (some ⟨g, 0, none⟩), .int .i64 size, .int .i64 n] w fun e w' => e = .returned (.tuple #[]) ∧ ∃ v', WrAt w' base g 83 v' [] 1 ∧ Newer w v v' ∧ Turned (Mine g v) w w' := by
  have c1 := hW.blk.cell (by simp [maxLen]) 1 (by simp)
  have f1 := hW.blk.frozen (by simp [maxLen]) 1
  simp only [List.getElem?_cons_zero, List.getElem?_cons_succ] at c1
  have P : Hid _ := hW.err (show (1 : Int) ≠ 0 by decide)
  clear hW
  by_cases h1 : size < 1
  · clear h
    go_enter Try.func42, Try.ntmps42
    go_wp2
    refine bodyPost_ret (results_none rfl _ _ _) rfl ?_
    exact ⟨rfl, P.out⟩
  · have h2 : 8 < size := by omega
    clear h
    go_enter Try.func42, Try.ntmps42
    go_wp2
    refine bodyPost_ret (results_none rfl _ _ _) rfl ?_
    exact ⟨rfl, P.out⟩

set_option maxHeartbeats 400000 in
theorem rwNum_err (base g : Nat) (v : Value) (L : List (BitVec 8)) (E size n : Int) (w : World) (hW : WrAt w base g 83 v L E) (hE : E ≠ 0) :
    Calls Try.prog 42 #[.pointer (some ⟨g, 0, none⟩), .int .i64 size, .int .i64 n] w fun e w' => e = .returned (.tuple #[]) ∧ w = w' := by
  have c1 := hW.blk.cell (by simp [maxLen]) 1 (by simp)
  simp only [List.getElem?_cons_zero, List.getElem?_cons_succ] at c1
  clear hW
  go_enter Try.func42, Try.ntmps42
  go_wp2
  refine bodyPost_ret (results_none rfl _ _ _) rfl ?_
  exact ⟨rfl, rfl⟩

theorem rwNum_any (base g : Nat) (v : Value) (L : List (BitVec 8)) (E size n : Int) (w : World) (hW : WrAt w base g 83 v L E) (hL : L.length + 8 ≤ 140737488351232) :
    Calls Try.prog 42 #[.pointer (some ⟨g, 0, none⟩), .int .i64 size, .int .i64 n] w fun e w' => e = .returned (.tuple #[]) ∧ ∃ v', WrAt w' base g 83 v' (wrNum L E size n).1 (wrNum L E size n).2 ∧ Newer w v v' ∧ Turned (Mine g v) w w' := by
  by_cases hE : E = 0
  · subst hE
    by_cases hr : size < 1 ∨ 8 < size
    · have e : wrNum L 0 size n = ([], 1) := by
        unfold wrNum wnE widthB
        rw [if_pos rfl, show decide (1 ≤ size ∧ size ≤ 8) = false by rw [decide_eq_false_iff_not]; omega]
        rfl
      rw [e]
      exact rwNum_arg base g v L size n w hW hr
    · have hw : widthB size = true := by unfold widthB; rw [decide_eq_true_eq]; omega
      have e : wrNum L 0 size n = (if wnE size n = 0 then (L ++ be size.toNat (BitVec.ofInt 64 n), 0) else ([], wnE size n)) := by unfold wrNum; rw [if_pos rfl]
      rw [e]
      have e2 : wnE size n = if size = 8 then 0 else if n < -(2 ^ (8 * size.toNat - 1)) ∨ 2 ^ (8 * size.toNat) - 1 < n then 3 else 0 := by unfold wnE; rw [hw]; rfl
      have hc : size = 1 ∨ size = 2 ∨ size = 3 ∨ size = 4 ∨ size = 5 ∨ size = 6 ∨ size = 7 ∨ size = 8 := by omega
      rcases hc with rfl | rfl | rfl | rfl | rfl | rfl | rfl | rfl
      · have e3 : wnE 1 n = if n < -128 ∨ 255 < n then 3 else 0 := e2
        by_cases hn : n < -128 ∨ 255 < n
        · rw [e3, if_pos hn]
          exact rwNum_no1 base g v L n w hW hn
        · rw [e3, if_neg hn]
          exact rwNum_1 base g v L n w hW hL (by omega) (by omega)
      · have e3 : wnE 2 n = if n < -32768 ∨ 65535 < n then 3 else 0 := e2
        by_cases hn : n < -32768 ∨ 65535 < n
        · rw [e3, if_pos hn]
          exact rwNum_no2 base g v L n w hW hn
        · rw [e3, if_neg hn]
          exact rwNum_2 base g v L n w hW hL (by omega) (by omega)
      · have e3 : wnE 3 n = if n < -8388608 ∨ 16777215 < n then 3 else 0 := e2
        by_cases hn : n < -8388608 ∨ 16777215 < n
        · rw [e3, if_pos hn]
          exact rwNum_no3 base g v L n w hW hn
        · rw [e3, if_neg hn]
          exact rwNum_3 base g v L n w hW hL (by omega) (by omega)
      · have e3 : wnE 4 n = if n < -2147483648 ∨ 4294967295 < n then 3 else 0 := e2
        by_cases hn : n < -2147483648 ∨ 4294967295 < n
        · rw [e3, if_pos hn]
          exact rwNum_no4 base g v L n w hW hn
        · rw [e3, if_neg hn]
          exact rwNum_4 base g v L n w hW hL (by omega) (by omega)
      · have e3 : wnE 5 n = if n < -549755813888 ∨ 1099511627775 < n then 3 else 0 := e2
        by_cases hn : n < -549755813888 ∨ 1099511627775 < n
        · rw [e3, if_pos hn]
          exact rwNum_no5 base g v L n w hW hn
        · rw [e3, if_neg hn]
          exact rwNum_5 base g v L n w hW hL (by omega) (by omega)
      · have e3 : wnE 6 n = if n < -140737488355328 ∨ 281474976710655 < n then 3 else 0 := e2
        by_cases hn : n < -140737488355328 ∨ 281474976710655 < n
        · rw [e3, if_pos hn]
          exact rwNum_no6 base g v L n w hW hn
        · rw [e3, if_neg hn]
          exact rwNum_6 base g v L n w hW hL (by omega) (by omega)
      · have e3 : wnE 7 n = if n < -36028797018963968 ∨ 72057594037927935 < n then 3 else 0 := e2
        by_cases hn : n < -36028797018963968 ∨ 72057594037927935 < n
        · rw [e3, if_pos hn]
          exact rwNum_no7 base g v L n w hW hn
        · rw [e3, if_neg hn]
          exact rwNum_7 base g v L n w hW hL (by omega) (by omega)
      · have e3 : wnE 8 n = 0 := e2
        rw [e3]
        exact rwNum_8 base g v L n w hW hL
  · have e : wrNum L E size n = ([], E) := by unfold wrNum; rw [if_neg hE]
    rw [e]
    refine (rwNum_err base g v L E size n w hW hE).mono ?_
    rintro e w' ⟨rfl, rfl⟩
    exact ⟨rfl, v, hW.forget hE, fun _ e => .inl e, turned_refl _ _⟩



set_option maxHeartbeats 400000 in
theorem rwEnd_any (base g : Nat) (v : Value) (L : List (BitVec 8)) (E : Int) (w : World) (hW : WrAt w base g 83 v L E) (hL : L.length ≤ 140737488351232) :
    Calls Try.prog 43 #[.pointer (some ⟨g, 0, none⟩)] w fun e w' => ∃ c, e = .returned (.tuple #[c, .int .i64 E]) ∧ Own w' w.heap.size c (wrEnd L E) ∧ Below w.heap.size w w' := by
  have hB := hW.blk
  have c0 := hB.cell (by simp [maxLen]) 0 (by simp)
  have c1 := hB.cell (by simp [maxLen]) 1 (by simp)
  simp only [List.getElem?_cons_zero, List.getElem?_cons_succ] at c0 c1
  by_cases hE : E = 0
  · subst hE
    obtain ⟨l, ho, hl⟩ := hW.own
    have hl' := hl rfl
    subst hl'
    obtain ⟨a1, cap1, rfl, hle1, hm1, hr1, hn1, _⟩ := ho.open
    have e : wrEnd l 0 = l := by unfold wrEnd; rw [if_pos rfl]
    rw [e]
    clear hB hW ho hl
    go_enter Try.func43, Try.ntmps43
    go_wp2_with (at_builtin; refine wpList_append_bytes _ rfl _ _ rfl w.heap.size _ [] rfl (Own.nil _ _) a1 l.length cap1 l rfl rfl hr1 hn1 hle1 (by simp; omega) (Nat.le_refl _) ?_)
    intro v2 w2 ho2 hg2
    have F : Hid _ := And.intro ho2 ((Below.refl w.heap.size w).grown hg2 (Nat.le_refl _) (by simp [Value.ownBlock]))
    obtain ⟨a2, n2, cap2, rfl⟩ := own_slice ho2
    clear ho2 hg2 hr1
    go_wp2
    go_ret2
    exact ⟨_, rfl, F.out.1, F.out.2⟩
  · have e : wrEnd L E = [] := by unfold wrEnd; rw [if_neg hE]
    rw [e]
    clear hB hW
    go_enter Try.func43, Try.ntmps43
    go_wp2
    have S0 : w.drew.cell? ⟨g, 1, none⟩ = some (.int .i64 E) := c1
    go_region_held_law (fun W => W.cell? ⟨g, 1, none⟩ = some (.int .i64 E)) (first | exact S0 | assumption) (fail)
    go_wp2
    go_ret2
    exact ⟨_, rfl, Own.nil _ _, (Below.refl _ _).drew⟩

end Go.Proofs.Ytfcaaljehhibgaa
