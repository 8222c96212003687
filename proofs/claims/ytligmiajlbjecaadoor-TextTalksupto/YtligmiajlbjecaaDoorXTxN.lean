/- text: numbers and their digits, without Go. -/
import Derived.Lib.ItoaNum
import Derived.Test.YtligmiajlbjecaaDoorXCrc
namespace Go.Proofs.YtligmiajlbjecaaDoor
set_option linter.unusedVariables false
set_option linter.unusedSimpArgs false

def isDg (c : UInt8) : Bool := decide (48 ≤ c.toNat ∧ c.toNat ≤ 57)
/-- the number that digits write, behind n -/
def vlN (n : Nat) (l : List UInt8) : Nat := l.foldl (fun n c => 10 * n + (c.toNat - 48)) n
def vl (l : List UInt8) : Nat := vlN 0 l
def numOk (l : List UInt8) : Bool := !l.isEmpty && l.all isDg && !(decide (1 < l.length) && decide (l.head? = some 48)) && decide (vl l ≤ 16777215)
/-- what Number answers -/
def nuR (l : List UInt8) : Int × Int := if numOk l then ((vl l : Int), 0) else (0, 11)
theorem vlN_append (n : Nat) (a b : List UInt8) : vlN n (a ++ b) = vlN (vlN n a) b := List.foldl_append
theorem vlN_cons (n : Nat) (c : UInt8) (l : List UInt8) : vlN n (c :: l) = vlN (10 * n + (c.toNat - 48)) l := List.foldl_cons ..
theorem vlN_nil (n : Nat) : vlN n [] = n := List.foldl_nil ..
theorem vlN_ge (n : Nat) (l : List UInt8) : n ≤ vlN n l := by
  induction l generalizing n with
  | nil => rw [vlN_nil]; exact Nat.le_refl _
  | cons c l ih => rw [vlN_cons]; exact Nat.le_trans (by omega) (ih _)
theorem vl_take (l : List UInt8) (k : Nat) : vl (l.take k) ≤ vl l := by
  have h : vl l = vlN (vl (l.take k)) (l.drop k) := by
    unfold vl
    rw [← vlN_append, List.take_append_drop]
  rw [h]
  exact vlN_ge _ _
theorem vl_snoc (l : List UInt8) (c : UInt8) : vl (l ++ [c]) = 10 * vl l + (c.toNat - 48) := by
  unfold vl
  rw [vlN_append, vlN_cons, vlN_nil]
theorem vlN_low (l : List UInt8) : ∀ n : Nat, n * 10 ^ l.length ≤ vlN n l := by
  induction l with
  | nil =>
    intro n
    rw [List.length_nil, Nat.pow_zero, Nat.mul_one]
    exact vlN_ge n []
  | cons c l ih =>
    intro n
    rw [List.length_cons, vlN_cons, Nat.pow_succ]
    have h := ih (10 * n + (c.toNat - 48))
    generalize vlN (10 * n + (c.toNat - 48)) l = V at *
    generalize 10 ^ l.length = P at *
    have h2 : (10 * n) * P ≤ (10 * n + (c.toNat - 48)) * P := Nat.mul_le_mul_right _ (Nat.le_add_right _ _)
    have e : n * (P * 10) = (10 * n) * P := by rw [Nat.mul_comm P 10, ← Nat.mul_assoc, Nat.mul_comm n 10]
    rw [e]
    exact Nat.le_trans h2 h
theorem head_take {l : List UInt8} {k : Nat} (h : 0 < k) : (l.take k).head? = l.head? := by
  cases l with
  | nil => simp
  | cons c l => cases k with
    | zero => omega
    | succ k => rfl
theorem u8_48 {c : UInt8} (h : c.toNat = 48) : c = 48 := by
  apply UInt8.toNat_inj.1
  rw [h]
  rfl
/-- digits that write 0 begin with 0 -/
theorem vl_zero {l : List UInt8} (hd : l.all isDg = true) (hne : l ≠ []) (h : vl l = 0) : l.head? = some 48 := by
  cases l with
  | nil => exact absurd rfl hne
  | cons c l =>
    have h1 : c.toNat - 48 ≤ vl (c :: l) := by
      have := vlN_ge (10 * 0 + (c.toNat - 48)) l
      unfold vl
      rw [vlN_cons]
      omega
    simp [isDg] at hd
    have := hd.1
    have e : c.toNat = 48 := by omega
    rw [u8_48 e]
    rfl
def good (l : List UInt8) : Prop := l ≠ [] ∧ l.all isDg = true ∧ (1 < l.length → l.head? ≠ some 48)
theorem numOk_iff (l : List UInt8) : numOk l = true ↔ good l ∧ vl l ≤ 16777215 := by
  unfold numOk good
  simp only [Bool.and_eq_true, Bool.not_eq_true', decide_eq_true_eq, Bool.and_eq_false_imp, decide_eq_false_iff_not, ne_eq]
  cases l <;> simp [List.isEmpty]
theorem dd_small {u : Nat} (h : u < 10) : Lib.decDigits u = [UInt8.ofNat (48 + u)] := by rw [Lib.decDigits, dif_pos h]
theorem dd_big {u : Nat} (h : ¬ u < 10) : Lib.decDigits u = Lib.decDigits (u / 10) ++ [UInt8.ofNat (48 + u % 10)] := by rw [Lib.decDigits, dif_neg h]
theorem dg_nat {d : Nat} (h : d < 10) : (UInt8.ofNat (48 + d)).toNat = 48 + d := by
  rw [UInt8.toNat_ofNat']
  omega
theorem dd_ne (u : Nat) : Lib.decDigits u ≠ [] := by
  by_cases h : u < 10
  · rw [dd_small h]; simp
  · rw [dd_big h]; simp
theorem dd_digits (u : Nat) : (Lib.decDigits u).all isDg = true := by
  induction u using Nat.strongRecOn with
  | _ u ih =>
    by_cases h : u < 10
    · rw [dd_small h]; simp [isDg, dg_nat h]; omega
    · rw [dd_big h, List.all_append, ih (u / 10) (by omega)]
      simp [isDg, dg_nat (Nat.mod_lt u (by omega : 0 < 10))]
      omega
theorem dd_vl (u : Nat) : vl (Lib.decDigits u) = u := by
  induction u using Nat.strongRecOn with
  | _ u ih =>
    by_cases h : u < 10
    · rw [dd_small h]
      unfold vl
      rw [vlN_cons, vlN_nil, dg_nat h]; omega
    · rw [dd_big h, vl_snoc, ih (u / 10) (by omega), dg_nat (Nat.mod_lt u (by omega : 0 < 10))]
      omega
theorem head_app {a b : List UInt8} (h : a ≠ []) : (a ++ b).head? = a.head? := by
  cases a with
  | nil => exact absurd rfl h
  | cons c a => rfl
theorem dd_head (u : Nat) (h : 0 < u) : (Lib.decDigits u).head? ≠ some 48 := by
  induction u using Nat.strongRecOn with
  | _ u ih =>
    by_cases h1 : u < 10
    · rw [dd_small h1]
      intro e
      have e' := Option.some.inj e
      have := congrArg UInt8.toNat e'
      rw [dg_nat h1] at this
      simp at this
      omega
    · rw [dd_big h1, head_app (dd_ne _)]
      exact ih (u / 10) (by omega) (by omega)
theorem dd_good (u : Nat) : good (Lib.decDigits u) := by
  refine ⟨dd_ne u, dd_digits u, fun hl => ?_⟩
  by_cases h : 0 < u
  · exact dd_head u h
  · have e : u = 0 := by omega
    subst e
    rw [dd_small (by omega)] at hl
    simp at hl
theorem good_back (n : Nat) : ∀ l : List UInt8, l.length = n → good l → Lib.decDigits (vl l) = l := by
  induction n with
  | zero => intro l hl hg; exact absurd (List.length_eq_zero_iff.1 hl) hg.1
  | succ n ih =>
    intro l hl hg
    obtain ⟨a, c, rfl⟩ : ∃ a c, l = a ++ [c] := ⟨l.dropLast, l.getLast hg.1, (List.dropLast_concat_getLast hg.1).symm⟩
    have ha : a.length = n := by simpa using hl
    have hd := hg.2.1
    rw [List.all_append, Bool.and_eq_true] at hd
    have hc : 48 ≤ c.toNat ∧ c.toNat ≤ 57 := by
      have := hd.2
      simpa [isDg] using this
    have ec : UInt8.ofNat (48 + (c.toNat - 48)) = c := by
      apply UInt8.toNat_inj.1
      rw [dg_nat (by omega)]
      omega
    rw [vl_snoc]
    by_cases h0 : a = []
    · subst h0
      have e : 10 * vl [] + (c.toNat - 48) = c.toNat - 48 := by unfold vl; rw [vlN_nil]; omega
      rw [e, dd_small (by omega), ec]
      rfl
    · have hga : good a := by
        refine ⟨h0, hd.1, fun h1 => ?_⟩
        have := hg.2.2 (by simp; omega)
        rwa [head_app h0] at this
      have hpos : vl a ≠ 0 := fun h => by
        have h1 := vl_zero hd.1 h0 h
        have h2 := hg.2.2 (by have := List.length_pos_iff.2 h0; simp; omega)
        rw [head_app h0] at h2
        exact h2 h1
      rw [dd_big (by omega)]
      have e1 : (10 * vl a + (c.toNat - 48)) / 10 = vl a := by omega
      have e2 : (10 * vl a + (c.toNat - 48)) % 10 = c.toNat - 48 := by omega
      rw [e1, e2, ec, ih a ha hga]
/-- nine digits and more write too great a number -/
theorem long_bad {l : List UInt8} (h : 8 < l.length) : numOk l = false := by
  cases hn : numOk l with
  | false => rfl
  | true =>
    obtain ⟨hg, hv⟩ := (numOk_iff l).1 hn
    cases l with
    | nil => exact absurd rfl hg.1
    | cons c l =>
      have hd := hg.2.1
      simp [isDg] at hd
      have hc : c.toNat ≠ 48 := fun e => hg.2.2 (by simp at h; simp; omega) (by rw [u8_48 e]; rfl)
      have h1 := vlN_low l (10 * 0 + (c.toNat - 48))
      have h2 : vl (c :: l) = vlN (10 * 0 + (c.toNat - 48)) l := vlN_cons ..
      have h3 : 10 ^ 8 ≤ 10 ^ l.length := Nat.pow_le_pow_right (by omega) (by simp at h; omega)
      have h4 : 1 * 10 ^ l.length ≤ (10 * 0 + (c.toNat - 48)) * 10 ^ l.length := Nat.mul_le_mul_right _ (by omega)
      have h5 : (10 : Nat) ^ 8 = 100000000 := rfl
      omega
theorem nuR_ok {l : List UInt8} (h : numOk l = true) : nuR l = ((vl l : Int), 0) := by unfold nuR; rw [if_pos h]
theorem nuR_no {l : List UInt8} (h : numOk l = false) : nuR l = (0, 11) := by unfold nuR; rw [h]; rfl
theorem bad_digit {l : List UInt8} {k : Nat} (hk : k < l.length) (h : isDg (l[k]'hk) = false) : numOk l = false := by
  cases hn : numOk l with
  | false => rfl
  | true =>
    have := ((numOk_iff l).1 hn).1.2.1
    rw [List.all_eq_true] at this
    have := this _ (List.getElem_mem hk)
    rw [h] at this
    cases this
theorem bad_lead {l : List UInt8} {k : Nat} (h0 : 0 < k) (hk : k < l.length) (hd : (l.take k).all isDg = true) (h : vl (l.take k) = 0) : numOk l = false := by
  cases hn : numOk l with
  | false => rfl
  | true =>
    have h1 := vl_zero hd (fun e => by have := congrArg List.length e; rw [List.length_take, List.length_nil] at this; omega) h
    rw [head_take h0] at h1
    exact absurd h1 (((numOk_iff l).1 hn).1.2.2 (by omega))
theorem bad_great {l : List UInt8} {k : Nat} (h : 16777215 < vl (l.take k)) : numOk l = false := by
  cases hn : numOk l with
  | false => rfl
  | true =>
    have := ((numOk_iff l).1 hn).2
    have := vl_take l k
    omega
/-- digits ahead of a unit -/
def dgs (m : Nat) : List UInt8 := if m = 0 then [] else Lib.decDigits m
theorem dgs_step {m d : Nat} (hd : d < 10) (h : ¬ (m = 0 ∧ d = 0)) : dgs (10 * m + d) = dgs m ++ [UInt8.ofNat (48 + d)] := by
  unfold dgs
  rw [if_neg (by omega)]
  by_cases h0 : m = 0
  · subst h0
    rw [if_pos rfl, show 10 * 0 + d = d by omega, dd_small hd]
    rfl
  · rw [if_neg h0, dd_big (by omega), show (10 * m + d) / 10 = m by omega, show (10 * m + d) % 10 = d by omega]
theorem dgs_last (n : Nat) : dgs (n / 10) ++ [UInt8.ofNat (48 + n % 10)] = Lib.decDigits n := by
  unfold dgs
  by_cases h : n < 10
  · rw [if_pos (by omega), dd_small h, show n % 10 = n by omega]; rfl
  · rw [if_neg (by omega), dd_big h]
theorem dgs_nil (m : Nat) : (dgs m).length = 0 ↔ m = 0 := by
  unfold dgs
  split
  · rename_i h; simp [h]
  · rename_i h
    constructor
    · intro e; exact absurd (List.length_eq_zero_iff.1 e) (dd_ne m)
    · intro e; exact absurd e h
end Go.Proofs.YtligmiajlbjecaaDoor

