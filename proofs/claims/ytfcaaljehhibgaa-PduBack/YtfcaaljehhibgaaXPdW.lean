/- pdu: what a written letter is to a reader. -/
import Derived.Test.YtfcaaljehhibgaaXPd9a
import Derived.Test.YtfcaaljehhibgaaXPd7
namespace Go.Proofs.Ytfcaaljehhibgaa
open Go.RowKit
set_option linter.unusedVariables false
set_option linter.unusedSimpArgs false
set_option maxRecDepth 8000

theorem pdH_cnt (op : Int) (now : Bool) (fl b2 b3 : Int) (n : Nat) (lun tk w0 w1 w2 w3 w4 w5 w6 : Int) (hn : n < 16777216) : cnt (pdH op now fl b2 b3 n lun tk w0 w1 w2 w3 w4 w5 w6) = n := by
  have e : ((pdH op now fl b2 b3 n lun tk w0 w1 w2 w3 w4 w5 w6).drop 5).take 3 = be 3 (BitVec.ofInt 64 (n : Int)) := by
    unfold pdH
    simp only [be, be8, List.nil_append, List.append_assoc, List.drop, List.cons_append, List.take, Nat.sub_self, Nat.reduceSub]
  have hf : fitsB 3 (BitVec.ofInt 64 (n : Int)) = true := by
    unfold fitsB
    rw [decide_eq_true_eq, BitVec.toNat_ofInt]
    apply Nat.div_eq_of_lt
    simp
    omega
  unfold cnt numTo
  rw [e, num_be 3 (by omega) _ hf, BitVec.toNat_ofInt]
  omega
theorem nz_nulls (k : Nat) : nz (nulls k) = false := by
  unfold nz nulls
  rw [List.any_eq_false]
  intro x hx
  rw [(List.mem_replicate.1 hx).2]
  simp
/-- a head that can be -/
structure HdOk17 (H d : List (BitVec 8)) (mo : Int) : Prop where
  len : H.length = 48
  cnt : cnt H = d.length
  b4 : bt H 4 = 0
  b0 : bt H 0 < 128
  most : (d.length : Int) ≤ mo
  few : d.length < 16777216
theorem take_front {α : Type} (a b : List α) (n : Nat) (h : a.length = n) : (a ++ b).take n = a := by rw [← h]; simp
theorem drop_front {α : Type} (a b : List α) (n : Nat) (h : a.length = n) : (a ++ b).drop n = b := by rw [← h]; simp
theorem put_parts (hs ds : Bool) (H d R : List (BitVec 8)) (mo : Int) (h : HdOk17 H d mo) :
    lH (putB hs ds H d ++ R) = H ∧ lD1 hs (putB hs ds H d ++ R) = dgB hs H ∧ lB hs (putB hs ds H d ++ R) = bdy d ∧ dN ds (putB hs ds H d ++ R) = dgN (ds && decide (0 < d.length)) ∧ lD3 hs ds (putB hs ds H d ++ R) = dgB (ds && decide (0 < d.length)) (bdy d) := by
  have e0 : lH (putB hs ds H d ++ R) = H := by unfold lH putB; rw [List.append_assoc]; exact take_front _ _ 48 h.len
  have e1 : lD1 hs (putB hs ds H d ++ R) = dgB hs H := by
    unfold lD1 putB
    rw [List.append_assoc, drop_front _ _ 48 h.len, List.append_assoc]
    exact take_front _ _ _ (dgB_len _ _)
  have e2 : (putB hs ds H d ++ R).drop (hN hs) = bdy d ++ (dgB (ds && decide (0 < d.length)) (bdy d) ++ R) := by
    unfold putB hN
    rw [List.append_assoc, ← List.drop_drop, drop_front _ _ 48 h.len, List.append_assoc, drop_front _ _ _ (dgB_len _ _), List.append_assoc]
  have e3 : lB hs (putB hs ds H d ++ R) = bdy d := by unfold lB; rw [e0, h.cnt, e2]; exact take_front _ _ _ (bdy_len d h.few)
  have e4 : dN ds (putB hs ds H d ++ R) = dgN (ds && decide (0 < d.length)) := by unfold dN; rw [e0, h.cnt]
  refine ⟨e0, e1, e3, e4, ?_⟩
  unfold lD3
  rw [e4, e0, h.cnt, ← List.drop_drop, e2, drop_front _ _ _ (bdy_len d h.few)]
  exact take_front _ _ _ (dgB_len _ _)
theorem put_whole (hs ds : Bool) (H d R : List (BitVec 8)) (mo : Int) (h : HdOk17 H d mo) : wkM hs ds mo (putB hs ds H d ++ R) = (0, true) := by
  obtain ⟨e0, e1, e3, e4, e5⟩ := put_parts hs ds H d R mo h
  have hl := putB_len hs ds H d h.few
  have hll : (putB hs ds H d ++ R).length = (putB hs ds H d).length + R.length := List.length_append
  have hE : hfE hs mo H (dgB hs H) = 0 := by
    unfold hfE
    rw [if_neg (by unfold dgB; cases hs <;> simp), if_neg (by have := h.b4; have := h.b0; omega), if_neg (by rw [h.cnt]; have := h.most; omega)]
  have hF : bfE ds H (bdy d) (dgB (ds && decide (0 < d.length)) (bdy d)) = 0 := by
    unfold bfE
    rw [h.cnt, if_neg (by unfold dgB; cases (ds && decide (0 < d.length)) <;> simp), if_neg]
    have : (bdy d).drop d.length = nulls (bodyN d.length - d.length) := by unfold bdy; exact drop_front _ _ _ rfl
    rw [this, nz_nulls]
    decide
  unfold wkM
  rw [e0, e1, e3, e4, e5, h.cnt, hE, hF, if_neg (by unfold hN; have := h.len; omega), if_neg (by simp), if_neg (by unfold hN; have := h.len; omega)]
theorem put_data (hs ds : Bool) (H d R : List (BitVec 8)) (mo : Int) (h : HdOk17 H d mo) : (lB hs (putB hs ds H d ++ R)).take (cnt (lH (putB hs ds H d ++ R))) = d ∧ hN hs + bodyN (cnt (lH (putB hs ds H d ++ R))) + dN ds (putB hs ds H d ++ R) = (putB hs ds H d).length := by
  obtain ⟨e0, e1, e3, e4, e5⟩ := put_parts hs ds H d R mo h
  rw [e0, e3, e4, h.cnt]
  refine ⟨by unfold bdy; exact take_front _ _ _ rfl, ?_⟩
  rw [putB_len hs ds H d h.few, h.len]
  unfold hN
  omega
end Go.Proofs.Ytfcaaljehhibgaa

/- pdu: letters one behind the other, as a reader tells them (no Go). -/
namespace Go.Proofs.Ytfcaaljehhibgaa
open Go.RowKit
set_option linter.unusedVariables false
set_option linter.unusedSimpArgs false
set_option maxRecDepth 8000

/-- a letter -/
structure Lt7 where
  op : Int
  now : Bool
  fl : Int
  b2 : Int
  b3 : Int
  lun : BitVec 64
  tk : BitVec 32
  w0 : BitVec 32
  w1 : BitVec 32
  w2 : BitVec 32
  w3 : BitVec 32
  w4 : BitVec 32
  w5 : BitVec 32
  w6 : BitVec 32
  d : List (BitVec 8)
def Lt7.cs (x : Lt7) (z : Value) : List Value := [.int .i64 x.op, .bool x.now, .int .i64 x.fl, .int .i64 x.b2, .int .i64 x.b3, .int .u64 (x.lun.toNat : Int), .int .u32 (x.tk.toNat : Int), .int .u32 (x.w0.toNat : Int), .int .u32 (x.w1.toNat : Int), .int .u32 (x.w2.toNat : Int), .int .u32 (x.w3.toNat : Int), .int .u32 (x.w4.toNat : Int), .int .u32 (x.w5.toNat : Int), .int .u32 (x.w6.toNat : Int), z]
def Lt7.head (x : Lt7) : List (BitVec 8) := pdH x.op x.now x.fl x.b2 x.b3 x.d.length (x.lun.toNat : Int) (x.tk.toNat : Int) (x.w0.toNat : Int) (x.w1.toNat : Int) (x.w2.toNat : Int) (x.w3.toNat : Int) (x.w4.toNat : Int) (x.w5.toNat : Int) (x.w6.toNat : Int)
def Lt7.enc (hs ds : Bool) (x : Lt7) : List (BitVec 8) := putB hs ds x.head x.d
def Lt7.err (mo : Int) (x : Lt7) : Int := putE mo x.op x.fl x.b2 x.b3 x.d.length
theorem Lt7.can {mo : Int} {x : Lt7} (h : x.err mo = 0) : (0 ≤ x.op ∧ x.op ≤ 63) ∧ (0 ≤ x.fl ∧ x.fl ≤ 255) ∧ (0 ≤ x.b2 ∧ x.b2 ≤ 255) ∧ (0 ≤ x.b3 ∧ x.b3 ≤ 255) ∧ (x.d.length : Int) ≤ mo ∧ x.d.length ≤ 65536 := by
  unfold Lt7.err putE at h
  split at h
  · rename_i h1
    rw [Bool.and_eq_true] at h1
    split at h
    · exact absurd h (by decide)
    · have h2 := canP_of h1.2
      have h3 : 48 ≤ mo ∧ mo ≤ 65536 := of_decide_eq_true h1.1
      exact ⟨h2.1, h2.2.1, h2.2.2.1, h2.2.2.2, by omega, by omega⟩
  · exact absurd h (by decide)
theorem Lt7.ok {mo : Int} {x : Lt7} (h : x.err mo = 0) : HdOk17 x.head x.d mo := by
  obtain ⟨h1, h2, h3, h4, h5, h6⟩ := Lt7.can h
  have hb := pdH_bytes x.op x.now x.fl x.b2 x.b3 x.d.length (x.lun.toNat : Int) (x.tk.toNat : Int) (x.w0.toNat : Int) (x.w1.toNat : Int) (x.w2.toNat : Int) (x.w3.toNat : Int) (x.w4.toNat : Int) (x.w5.toNat : Int) (x.w6.toNat : Int) h1 (by omega)
  exact ⟨pdH_len .., pdH_cnt _ _ _ _ _ _ _ _ _ _ _ _ _ _ _ (by omega), hb.2.1, hb.1, h5, by omega⟩
/-- a number of a head, read back -/
theorem nb_be (h : List (BitVec 8)) (p s : Nat) (v : Int) (hs : s ≤ 8) (e : (h.drop p).take s = be s (BitVec.ofInt 64 v)) (h0 : 0 ≤ v) (h1 : v < 2 ^ (8 * s)) : nb h p s = v := by
  have hn2 : (2 : Nat) ^ (8 * s) ≤ 2 ^ 64 := Nat.pow_le_pow_right (by decide) (by omega)
  have hs2 : (2 : Int) ^ (8 * s) ≤ 2 ^ 64 := by exact_mod_cast hn2
  have hv : (BitVec.ofInt 64 v).toNat = v.toNat := by rw [BitVec.toNat_ofInt]; congr 1; apply Int.emod_eq_of_lt h0; omega
  have hf : fitsB s (BitVec.ofInt 64 v) = true := by
    unfold fitsB
    rw [decide_eq_true_eq, hv]
    apply Nat.div_eq_of_lt
    have : ((v.toNat : Nat) : Int) < ((2 ^ (8 * s) : Nat) : Int) := by push_cast; omega
    exact_mod_cast this
  unfold nb numTo
  rw [e, num_be s hs _ hf, hv]
  omega
theorem pdV_of {mo : Int} {x : Lt7} (h : x.err mo = 0) (z : Value) : pdV x.head z = x.cs z := by
  obtain ⟨h1, h2, h3, h4, h5, h6⟩ := Lt7.can h
  have hfs : 0 ≤ fst7 x.op x.now ∧ fst7 x.op x.now < 128 := by unfold fst7; split <;> omega
  have e0 : nb x.head 0 1 = fst7 x.op x.now := nb_be _ 0 1 _ (by omega) (by simp only [Lt7.head, pdH, be, be8, List.nil_append, List.append_assoc, List.drop, List.cons_append, List.take, Nat.sub_self, Nat.reduceSub]) hfs.1 (by simp; omega)
  have e1 : nb x.head 1 1 = x.fl := nb_be _ 1 1 _ (by omega) (by simp only [Lt7.head, pdH, be, be8, List.nil_append, List.append_assoc, List.drop, List.cons_append, List.take, Nat.sub_self, Nat.reduceSub]) h2.1 (by simp; omega)
  have e2 : nb x.head 2 1 = x.b2 := nb_be _ 2 1 _ (by omega) (by simp only [Lt7.head, pdH, be, be8, List.nil_append, List.append_assoc, List.drop, List.cons_append, List.take, Nat.sub_self, Nat.reduceSub]) h3.1 (by simp; omega)
  have e3 : nb x.head 3 1 = x.b3 := nb_be _ 3 1 _ (by omega) (by simp only [Lt7.head, pdH, be, be8, List.nil_append, List.append_assoc, List.drop, List.cons_append, List.take, Nat.sub_self, Nat.reduceSub]) h4.1 (by simp; omega)
  have e8 : nb x.head 8 8 = (x.lun.toNat : Int) := nb_be _ 8 8 _ (by omega) (by simp only [Lt7.head, pdH, be, be8, List.nil_append, List.append_assoc, List.drop, List.cons_append, List.take, Nat.sub_self, Nat.reduceSub]) (by omega) (by have := x.lun.isLt; simp; omega)
  have w (p : Nat) (v : BitVec 32) (e : (x.head.drop p).take 4 = be 4 (BitVec.ofInt 64 (v.toNat : Int))) : nb x.head p 4 = (v.toNat : Int) := nb_be _ p 4 _ (by omega) e (by omega) (by have := v.isLt; simp; omega)
  have e16 : nb x.head 16 4 = (x.tk.toNat : Int) := w 16 x.tk (by simp only [Lt7.head, pdH, be, be8, List.nil_append, List.append_assoc, List.drop, List.cons_append, List.take, Nat.sub_self, Nat.reduceSub])
  have e20 : nb x.head 20 4 = (x.w0.toNat : Int) := w 20 x.w0 (by simp only [Lt7.head, pdH, be, be8, List.nil_append, List.append_assoc, List.drop, List.cons_append, List.take, Nat.sub_self, Nat.reduceSub])
  have e24 : nb x.head 24 4 = (x.w1.toNat : Int) := w 24 x.w1 (by simp only [Lt7.head, pdH, be, be8, List.nil_append, List.append_assoc, List.drop, List.cons_append, List.take, Nat.sub_self, Nat.reduceSub])
  have e28 : nb x.head 28 4 = (x.w2.toNat : Int) := w 28 x.w2 (by simp only [Lt7.head, pdH, be, be8, List.nil_append, List.append_assoc, List.drop, List.cons_append, List.take, Nat.sub_self, Nat.reduceSub])
  have e32 : nb x.head 32 4 = (x.w3.toNat : Int) := w 32 x.w3 (by simp only [Lt7.head, pdH, be, be8, List.nil_append, List.append_assoc, List.drop, List.cons_append, List.take, Nat.sub_self, Nat.reduceSub])
  have e36 : nb x.head 36 4 = (x.w4.toNat : Int) := w 36 x.w4 (by simp only [Lt7.head, pdH, be, be8, List.nil_append, List.append_assoc, List.drop, List.cons_append, List.take, Nat.sub_self, Nat.reduceSub])
  have e40 : nb x.head 40 4 = (x.w5.toNat : Int) := w 40 x.w5 (by simp only [Lt7.head, pdH, be, be8, List.nil_append, List.append_assoc, List.drop, List.cons_append, List.take, Nat.sub_self, Nat.reduceSub])
  have e44 : nb x.head 44 4 = (x.w6.toNat : Int) := w 44 x.w6 (by simp only [Lt7.head, pdH, be, be8, List.nil_append, List.append_assoc, List.drop, List.cons_append, List.take, Nat.sub_self, Nat.reduceSub])
  have eo : pOp x.head = x.op := by
    unfold pOp
    rw [e0]
    obtain ⟨k, hk⟩ := Int.eq_ofNat_of_zero_le h1.1
    have hk2 : k < 64 := by omega
    rw [hk]
    have all : ∀ k : Fin 64, bits .and .i64 (fst7 ((k.val : Nat) : Int) true) 63 = ((k.val : Nat) : Int) ∧ bits .and .i64 (fst7 ((k.val : Nat) : Int) false) 63 = ((k.val : Nat) : Int) := by decide +kernel
    cases x.now
    · exact (all ⟨k, hk2⟩).2
    · exact (all ⟨k, hk2⟩).1
  have en : pNow x.head = x.now := by
    unfold pNow
    rw [e0]
    obtain ⟨k, hk⟩ := Int.eq_ofNat_of_zero_le h1.1
    have hk2 : k < 64 := by omega
    rw [hk]
    have all : ∀ k : Fin 64, (!(bits .and .i64 (fst7 ((k.val : Nat) : Int) true) 64 == 0)) = true ∧ (!(bits .and .i64 (fst7 ((k.val : Nat) : Int) false) 64 == 0)) = false := by decide +kernel
    cases x.now
    · exact (all ⟨k, hk2⟩).2
    · exact (all ⟨k, hk2⟩).1
  unfold pdV Lt7.cs
  rw [eo, en, e1, e2, e3, e8, e16, e20, e24, e28, e32, e36, e40, e44]
/-- what is not whole waits -/
theorem put_part (hs ds : Bool) (H d L A : List (BitVec 8)) (mo : Int) (h : HdOk17 H d mo) (R : List (BitVec 8)) (he : L ++ A = putB hs ds H d ++ R) (hl : L.length < (putB hs ds H d).length) : wkM hs ds mo L = (0, false) := by
  unfold wkM
  by_cases h1 : L.length < hN hs
  · rw [if_pos h1]
  · rw [if_neg h1]
    have hP := put_parts hs ds H d R mo h
    have hlen := putB_len hs ds H d h.few
    have hL : L = (putB hs ds H d ++ R).take L.length := by rw [← he]; simp
    have h48 : 48 ≤ L.length := by unfold hN at h1; omega
    have e0 : lH L = H := by
      have := hP.1
      unfold lH at *
      rw [hL, List.take_take, Nat.min_eq_left h48]
      exact this
    have e1 : lD1 hs L = dgB hs H := by
      have := hP.2.1
      unfold lD1 at *
      have hd : L.drop 48 = ((putB hs ds H d ++ R).drop 48).take (L.length - 48) := by
        conv => lhs; rw [hL]
        rw [List.drop_take]
      rw [hd, List.take_take, Nat.min_eq_left (by unfold hN at h1; omega)]
      exact this
    have e2 : dN ds L = dgN (ds && decide (0 < d.length)) := by unfold dN; rw [e0, h.cnt]
    have hE : hfE hs mo H (dgB hs H) = 0 := by
      unfold hfE
      rw [if_neg (by unfold dgB; cases hs <;> simp), if_neg (by have := h.b4; have := h.b0; omega), if_neg (by rw [h.cnt]; have := h.most; omega)]
    rw [e0, e1, e2, h.cnt, hE, if_neg (by simp), if_pos (by rw [hlen] at hl; have := h.len; unfold hN; omega)]
/-- a stream of letters -/
def strm (hs ds : Bool) (xs : List Lt7) : List (BitVec 8) := xs.flatMap (Lt7.enc hs ds)
theorem enc_len {hs ds : Bool} {mo : Int} {x : Lt7} (h : x.err mo = 0) : 48 ≤ (x.enc hs ds).length := by
  unfold Lt7.enc
  rw [putB_len _ _ _ _ (Lt7.ok h).few, (Lt7.ok h).len]
  omega
/-- what a reader of a stream tells: the next letter, or nothing -/
theorem strm_next {hs ds : Bool} {mo : Int} {xs : List Lt7} (hx : ∀ x ∈ xs, x.err mo = 0) {l a : List (BitVec 8)} (h : l ++ a = strm hs ds xs) :
    (wkM hs ds mo l = (0, false) ∧ (a = [] → xs = [] ∧ l = [])) ∨ ∃ x r l', xs = x :: r ∧ wkM hs ds mo l = (0, true) ∧ lH l = x.head ∧ (lB hs l).take (cnt (lH l)) = x.d ∧ l.drop (hN hs + bodyN (cnt (lH l)) + dN ds l) = l' ∧ l' ++ a = strm hs ds r := by
  cases xs with
  | nil =>
    have h0 : l ++ a = [] := h
    have h1 := (List.append_eq_nil_iff.1 h0).1
    refine .inl ⟨?_, fun _ => ⟨rfl, h1⟩⟩
    unfold wkM
    rw [if_pos (by rw [h1]; unfold hN; simp; omega)]
  | cons x r =>
    have hok := Lt7.ok (hx x (List.mem_cons_self ..))
    have hs0 : strm hs ds (x :: r) = x.enc hs ds ++ strm hs ds r := List.flatMap_cons
    rw [hs0] at h
    by_cases hl : l.length < (x.enc hs ds).length
    · refine .inl ⟨put_part hs ds x.head x.d l a mo hok _ h hl, fun e => ?_⟩
      subst e
      have := congrArg List.length h
      rw [List.append_nil, List.length_append] at this
      omega
    · have e : l = x.enc hs ds ++ l.drop (x.enc hs ds).length := by
        have := congrArg (List.take (x.enc hs ds).length) h
        rw [List.take_append_of_le_length (by omega), List.take_left' rfl] at this
        rw [← this]
        conv => lhs; rw [← List.take_append_drop (x.enc hs ds).length l]
        rw [List.length_take, Nat.min_eq_left (by omega)]
      have hd := put_data hs ds x.head x.d (l.drop (x.enc hs ds).length) mo hok
      have hw := put_whole hs ds x.head x.d (l.drop (x.enc hs ds).length) mo hok
      have hp := put_parts hs ds x.head x.d (l.drop (x.enc hs ds).length) mo hok
      have e' : putB hs ds x.head x.d ++ l.drop (x.enc hs ds).length = l := e.symm
      rw [e'] at hd hw hp
      refine .inr ⟨x, r, _, rfl, hw, hp.1, hd.1, by rw [hd.2], ?_⟩
      rw [e, List.append_assoc] at h
      exact List.append_cancel_left h
end Go.Proofs.Ytfcaaljehhibgaa
