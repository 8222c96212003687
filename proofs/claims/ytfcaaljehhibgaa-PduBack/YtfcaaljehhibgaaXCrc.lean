/- Plain facts on the register of the sum (32 bits): its shift is linear and one to one, so sums in pieces, joined sums, turned bits and closed digests come out as they should. No Go in sight. -/
namespace Go.Proofs.Ytfcaaljehhibgaa.Crc

/-- the polynomial -/
def P : BitVec 32 := 0x82f63b78#32

/-- the register behind one bit 0 -/
def S (r : BitVec 32) : BitVec 32 := (r >>> 1) ^^^ (if r.getLsbD 0 then P else 0#32)

theorem xor_rot (a b c d : BitVec 32) : (a ^^^ b) ^^^ (c ^^^ d) = (a ^^^ c) ^^^ (b ^^^ d) := by
  rw [BitVec.xor_assoc, ← BitVec.xor_assoc b c d, BitVec.xor_comm b c, BitVec.xor_assoc c b d, ← BitVec.xor_assoc]

theorem S_xor (a b : BitVec 32) : S (a ^^^ b) = S a ^^^ S b := by
  unfold S
  rw [BitVec.ushiftRight_xor_distrib, xor_rot, BitVec.getLsbD_xor]
  cases a.getLsbD 0 <;> cases b.getLsbD 0 <;> simp

theorem S_zero : S 0#32 = 0#32 := by decide

theorem S_inj_zero (a : BitVec 32) (h : S a = 0#32) : a = 0#32 := by
  unfold S at h
  have h31 : ((a >>> 1) ^^^ (if a.getLsbD 0 then P else 0#32)).getLsbD 31 = false := by rw [h]; rfl
  rw [BitVec.getLsbD_xor] at h31
  have hz : (a >>> 1).getLsbD 31 = false := by
    rw [BitVec.getLsbD_ushiftRight]; exact BitVec.getLsbD_of_ge a _ (by omega)
  rw [hz] at h31
  cases h0 : a.getLsbD 0 with
  | true => rw [h0] at h31; exact absurd h31 (by decide)
  | false =>
    rw [h0] at h
    simp at h
    apply BitVec.eq_of_getLsbD_eq
    intro i hi
    cases i with
    | zero => rw [h0]; rfl
    | succ i =>
      have : (a >>> 1).getLsbD i = false := by rw [h]; simp
      rw [BitVec.getLsbD_ushiftRight, Nat.add_comm] at this
      rw [this]; simp

/-- the register behind n bits 0 -/
def Sn : Nat → BitVec 32 → BitVec 32
  | 0, r => r
  | n + 1, r => S (Sn n r)

theorem Sn_succ (n : Nat) (r : BitVec 32) : Sn (n + 1) r = S (Sn n r) := rfl
theorem Sn_add (m n : Nat) (r : BitVec 32) : Sn (m + n) r = Sn m (Sn n r) := by
  induction m with
  | zero => simp [Sn]
  | succ m ih => rw [Nat.succ_add, Sn_succ, ih, Sn_succ]
theorem Sn_comm (m n : Nat) (r : BitVec 32) : Sn m (Sn n r) = Sn n (Sn m r) := by
  rw [← Sn_add, ← Sn_add, Nat.add_comm]
theorem Sn_xor (n : Nat) (a b : BitVec 32) : Sn n (a ^^^ b) = Sn n a ^^^ Sn n b := by
  induction n with
  | zero => rfl
  | succ n ih => rw [Sn_succ, ih, S_xor]; rfl
theorem Sn_zero (n : Nat) : Sn n 0#32 = 0#32 := by
  induction n with
  | zero => rfl
  | succ n ih => rw [Sn_succ, ih, S_zero]
theorem Sn_inj_zero (n : Nat) (a : BitVec 32) (h : Sn n a = 0#32) : a = 0#32 := by
  induction n with
  | zero => exact h
  | succ n ih => exact ih (S_inj_zero _ h)

/-- a byte's bits in a register -/
def low (c : BitVec 8) : BitVec 32 := c.setWidth 32
theorem low_xor (a b : BitVec 8) : low (a ^^^ b) = low a ^^^ low b := by
  unfold low; exact BitVec.setWidth_xor

/-- the register behind a byte -/
def step (r : BitVec 32) (c : BitVec 8) : BitVec 32 := Sn 8 (r ^^^ low c)
/-- the register behind bytes -/
def run (r : BitVec 32) (l : List (BitVec 8)) : BitVec 32 := l.foldl step r
/-- the sum of more bytes -/
def more (s : BitVec 32) (l : List (BitVec 8)) : BitVec 32 := ~~~ run (~~~ s) l
/-- the sum of bytes -/
def sum (l : List (BitVec 8)) : BitVec 32 := more 0#32 l

theorem run_append (r : BitVec 32) (a b : List (BitVec 8)) : run r (a ++ b) = run (run r a) b := List.foldl_append
theorem run_snoc (r : BitVec 32) (a : List (BitVec 8)) (c : BitVec 8) : run r (a ++ [c]) = step (run r a) c := by
  rw [run_append]; rfl

theorem step_split (r s : BitVec 32) (c d : BitVec 8) : step (r ^^^ s) (c ^^^ d) = step r c ^^^ step s d := by
  unfold step
  rw [low_xor, xor_rot, Sn_xor]

theorem run_xor (r s : BitVec 32) (a b : List (BitVec 8)) (h : a.length = b.length) :
    run (r ^^^ s) (List.zipWith (· ^^^ ·) a b) = run r a ^^^ run s b := by
  induction a generalizing b r s with
  | nil => cases b with
    | nil => rfl
    | cons y b => simp at h
  | cons x a ih => cases b with
    | nil => simp at h
    | cons y b =>
      show run (step (r ^^^ s) (x ^^^ y)) (List.zipWith (· ^^^ ·) a b) = run (step r x) a ^^^ run (step s y) b
      rw [step_split]
      exact ih _ _ b (by simpa using h)

theorem xor_zero_zip (b : List (BitVec 8)) : List.zipWith (· ^^^ ·) (List.replicate b.length 0#8) b = b := by
  induction b with
  | nil => rfl
  | cons y b ih => simp [List.replicate_succ, ih]

theorem run_zeros (r : BitVec 32) (n : Nat) : run r (List.replicate n 0#8) = Sn (8 * n) r := by
  induction n generalizing r with
  | zero => rfl
  | succ n ih =>
    rw [List.replicate_succ]
    show run (step r 0#8) _ = _
    rw [ih, show 8 * (n + 1) = 8 * n + 8 by omega, Sn_add]
    unfold step
    rw [show low 0#8 = 0#32 by decide, BitVec.xor_zero]

theorem run_split (r s : BitVec 32) (b : List (BitVec 8)) : run (r ^^^ s) b = Sn (8 * b.length) r ^^^ run s b := by
  have := run_xor r s (List.replicate b.length 0#8) b (by simp)
  rw [xor_zero_zip, run_zeros] at this
  exact this

theorem not_eq_xor (a : BitVec 32) : ~~~ a = a ^^^ BitVec.allOnes 32 := by
  rw [BitVec.xor_allOnes]
theorem not_not (a : BitVec 32) : ~~~ ~~~ a = a := BitVec.not_not

theorem more_sum (a b : List (BitVec 8)) : more (sum a) b = sum (a ++ b) := by
  unfold sum more
  rw [not_not, run_append]

/-- two pieces joined by their sums -/
def join (a b : BitVec 32) (n : Nat) : BitVec 32 := Sn (8 * n) a ^^^ b

theorem join_sum (a b : List (BitVec 8)) : join (sum a) (sum b) b.length = sum (a ++ b) := by
  unfold sum more join
  rw [run_append]
  have h : run (~~~ 0#32) a = ~~~ run (~~~ 0#32) a ^^^ ~~~ 0#32 := by
    rw [not_eq_xor (run (~~~ 0#32) a), BitVec.xor_assoc]
    have : BitVec.allOnes 32 ^^^ ~~~ 0#32 = 0#32 := by decide
    rw [this, BitVec.xor_zero]
  conv => rhs; rw [h]
  rw [run_split, not_eq_xor (_ ^^^ _), BitVec.xor_assoc, ← not_eq_xor]

/-! ### the product -/
/-- the register of the power 0 -/
def e : BitVec 32 := 0x80000000#32
def Tn : Nat → BitVec 32 → BitVec 32 → BitVec 32
  | 0, _, _ => 0#32
  | k + 1, b, a => Tn k b a ^^^ (if b.getLsbD (31 - k) then Sn k a else 0#32)

theorem Tn_xor (k : Nat) (b x y : BitVec 32) : Tn k b (x ^^^ y) = Tn k b x ^^^ Tn k b y := by
  induction k with
  | zero => show 0#32 = 0#32 ^^^ 0#32; decide
  | succ k ih =>
    show Tn k b (x ^^^ y) ^^^ _ = (Tn k b x ^^^ _) ^^^ (Tn k b y ^^^ _)
    rw [ih, xor_rot, Sn_xor]
    cases b.getLsbD (31 - k) <;> simp
theorem Tn_zero (k : Nat) (b : BitVec 32) : Tn k b 0#32 = 0#32 := by
  induction k with
  | zero => rfl
  | succ k ih => show Tn k b 0#32 ^^^ _ = _; rw [ih, Sn_zero]; simp
theorem Tn_Sn (k n : Nat) (b x : BitVec 32) : Tn k b (Sn n x) = Sn n (Tn k b x) := by
  induction k with
  | zero => exact (Sn_zero n).symm
  | succ k ih =>
    show Tn k b (Sn n x) ^^^ _ = Sn n (Tn k b x ^^^ _)
    rw [ih, Sn_xor, Sn_comm]
    cases b.getLsbD (31 - k) <;> simp [Sn_zero]

theorem Sn_e (k : Nat) (hk : k < 32) : Sn k e = BitVec.twoPow 32 (31 - k) := by
  have : ∀ k : Fin 32, Sn k.val e = BitVec.twoPow 32 (31 - k.val) := by decide +kernel
  exact this ⟨k, hk⟩

theorem Tn_e (k : Nat) (hk : k ≤ 32) (b : BitVec 32) (j : Nat) (hj : j < 32) : (Tn k b e).getLsbD j = (decide (32 - k ≤ j) && b.getLsbD j) := by
  induction k with
  | zero => simp [Tn]; omega
  | succ k ih =>
    show (Tn k b e ^^^ _).getLsbD j = _
    rw [BitVec.getLsbD_xor, ih (by omega), Sn_e k (by omega)]
    by_cases h : j = 31 - k
    · subst h
      have h1 : ¬ (32 - k ≤ 31 - k) := by omega
      cases hb : b.getLsbD (31 - k) <;> simp [h1, hj]
    · have h3 : (if b.getLsbD (31 - k) then BitVec.twoPow 32 (31 - k) else 0#32).getLsbD j = false := by
        cases b.getLsbD (31 - k)
        · simp
        · simp [BitVec.getLsbD_twoPow]; omega
      rw [h3, Bool.xor_false]
      congr 1
      rw [decide_eq_decide]; omega

theorem T_e (b : BitVec 32) : Tn 32 b e = b := by
  apply BitVec.eq_of_getLsbD_eq
  intro j hj
  rw [Tn_e 32 (by omega) b j hj]; simp

theorem T_swap_aux (k : Nat) (a b : BitVec 32) : Tn 32 b (Tn k a e) = Tn k a b := by
  induction k with
  | zero => exact Tn_zero 32 b
  | succ k ih =>
    show Tn 32 b (Tn k a e ^^^ _) = Tn k a b ^^^ _
    rw [Tn_xor, ih]
    cases a.getLsbD (31 - k)
    · simp [Tn_zero]
    · simp [Tn_Sn, T_e]
theorem T_swap (a b : BitVec 32) : Tn 32 b a = Tn 32 a b := by
  have := T_swap_aux 32 a b
  rwa [T_e] at this

/-- the product with a power of x is as many shifts -/
theorem T_pow (q : Nat) (a : BitVec 32) : Tn 32 (Sn q e) a = Sn q a := by
  rw [T_swap, Tn_Sn, T_e]

/-! ### the digest -/
/-- the four bytes of a register, the lowest first -/
def bytes4 (v : BitVec 32) : List (BitVec 8) := [v.setWidth 8, (v >>> 8).setWidth 8, (v >>> 16).setWidth 8, (v >>> 24).setWidth 8]

theorem Sn8_high (r : BitVec 32) : Sn 8 r = (r >>> 8) ^^^ Sn 8 (low (r.setWidth 8)) := by
  have h : r = (r >>> 8) <<< 8 ^^^ low (r.setWidth 8) := by
    apply BitVec.eq_of_getLsbD_eq
    intro j hj
    unfold low
    rw [BitVec.getLsbD_xor, BitVec.getLsbD_shiftLeft, BitVec.getLsbD_ushiftRight, BitVec.getLsbD_setWidth, BitVec.getLsbD_setWidth]
    by_cases h : j < 8
    · simp [h, hj]
    · have : 8 + (j - 8) = j := by omega
      simp [h, hj, this]
  have hs : Sn 8 ((r >>> 8) <<< 8) = r >>> 8 := by
    have hh : ∀ (v : BitVec 32), v.getLsbD 0 = false → S v = v >>> 1 := by
      intro v hv; unfold S; rw [hv]; simp
    have hb : ∀ (k : Nat), k ≤ 8 → Sn k ((r >>> 8) <<< 8) = (r >>> 8) <<< (8 - k) := by
      intro k
      induction k with
      | zero => intro _; rfl
      | succ k ih =>
        intro hk
        rw [Sn_succ, ih (by omega), hh]
        · apply BitVec.eq_of_getLsbD_eq
          intro j hj
          rw [BitVec.getLsbD_ushiftRight, BitVec.getLsbD_shiftLeft, BitVec.getLsbD_shiftLeft, BitVec.getLsbD_ushiftRight, BitVec.getLsbD_ushiftRight]
          by_cases h31 : j = 31
          · subst h31
            have : r.getLsbD (8 + (31 - (8 - (k + 1)))) = false := BitVec.getLsbD_of_ge r _ (by omega)
            rw [this]; simp
          · have e1 : decide (1 + j < 32) = true := by simp; omega
            have e2 : decide (j < 32) = true := by simp; omega
            have e3 : decide (1 + j < 8 - k) = decide (j < 8 - (k + 1)) := by rw [decide_eq_decide]; omega
            have e4 : 1 + j - (8 - k) = j - (8 - (k + 1)) ∨ 1 + j < 8 - k := by omega
            rw [e1, e2, e3]
            rcases e4 with e4 | e4
            · rw [e4]
            · have : decide (j < 8 - (k + 1)) = true := by simp; omega
              rw [this]; simp
        · rw [BitVec.getLsbD_shiftLeft]; simp; omega
    have := hb 8 (by omega)
    simpa using this
  conv => lhs; rw [h, Sn_xor, hs]

theorem step_low (r v : BitVec 32) : step r (v.setWidth 8) = step 0#32 (r.setWidth 8 ^^^ v.setWidth 8) ^^^ (r >>> 8) := by
  have h1 : step r (v.setWidth 8) = Sn 8 r ^^^ Sn 8 (low (v.setWidth 8)) := by unfold step; rw [Sn_xor]
  have h2 : step 0#32 (r.setWidth 8 ^^^ v.setWidth 8) = Sn 8 (low (r.setWidth 8)) ^^^ Sn 8 (low (v.setWidth 8)) := by
    unfold step; rw [BitVec.zero_xor, low_xor, Sn_xor]
  rw [h1, h2, Sn8_high r, BitVec.xor_comm (r >>> 8), BitVec.xor_assoc, BitVec.xor_comm (r >>> 8), ← BitVec.xor_assoc]

theorem step_bytes (r v : BitVec 32) : step r (v.setWidth 8) = Sn 8 (r ^^^ v) ^^^ (v >>> 8) := by
  have h1 : step r (v.setWidth 8) = Sn 8 r ^^^ Sn 8 (low (v.setWidth 8)) := by unfold step; rw [Sn_xor]
  rw [h1, Sn_xor, Sn8_high v, BitVec.xor_comm (v >>> 8), BitVec.xor_assoc, BitVec.xor_assoc, BitVec.xor_self, BitVec.xor_zero]

theorem run_bytes4 (r v : BitVec 32) : run r (bytes4 v) = Sn 32 (r ^^^ v) := by
  show step (step (step (step r (v.setWidth 8)) ((v >>> 8).setWidth 8)) ((v >>> 16).setWidth 8)) ((v >>> 24).setWidth 8) = _
  have e1 : v >>> 16 = (v >>> 8) >>> 8 := BitVec.shiftRight_add v 8 8
  have e2 : v >>> 24 = (v >>> 16) >>> 8 := BitVec.shiftRight_add v 16 8
  have e3 : (v >>> 24) >>> 8 = 0#32 := by
    rw [← BitVec.shiftRight_add]; apply BitVec.eq_of_getLsbD_eq; intro j hj; rw [BitVec.getLsbD_ushiftRight]; simp
  have c : ∀ a b : BitVec 32, a ^^^ b ^^^ b = a := by intro a b; rw [BitVec.xor_assoc, BitVec.xor_self, BitVec.xor_zero]
  rw [step_bytes r v, step_bytes _ (v >>> 8), c, ← e1, step_bytes _ (v >>> 16), c, ← e2, step_bytes _ (v >>> 24), c, e3, BitVec.xor_zero]
  rw [← Sn_add, ← Sn_add, ← Sn_add]

/-- with its digest behind it, always the same -/
theorem close (l : List (BitVec 8)) : more (sum l) (bytes4 (sum l)) = 0x48674bc7#32 := by
  unfold more
  rw [run_bytes4, not_eq_xor (sum l), BitVec.xor_assoc, BitVec.xor_comm, BitVec.xor_assoc, BitVec.xor_self, BitVec.xor_zero]
  decide +kernel

/-- three lists added -/
theorem sum_add (a b c : List (BitVec 8)) (h1 : a.length = b.length) (h2 : b.length = c.length) :
    sum (List.zipWith (· ^^^ ·) (List.zipWith (· ^^^ ·) a b) c) = sum a ^^^ sum b ^^^ sum c := by
  unfold sum more
  have h := run_xor (~~~ 0#32 ^^^ ~~~ 0#32) (~~~ 0#32) (List.zipWith (· ^^^ ·) a b) c (by simp [h1, h2])
  rw [run_xor _ _ a b h1] at h
  rw [show (~~~ 0#32 ^^^ ~~~ 0#32 ^^^ ~~~ 0#32 : BitVec 32) = ~~~ 0#32 by decide] at h
  rw [h, not_eq_xor (run _ a), not_eq_xor (run _ b), not_eq_xor (run _ c), not_eq_xor (_ ^^^ _), xor_rot (run (~~~ 0#32) a), BitVec.xor_self, BitVec.xor_zero, ← BitVec.xor_assoc]

end Go.Proofs.Ytfcaaljehhibgaa.Crc

