/- The piece that bytes are. -/
import Derived.Test.YtgonglbgejaffaaXKw
import Derived.Test.YtgonglbgejaffaaXFieldP2
namespace Go.Proofs.Ytgonglbgejaffaa
open Go.RowKit
set_option linter.unusedVariables false
set_option linter.unusedSimpArgs false
set_option maxRecDepth 4000

def dc1 (l : List (BitVec 8)) := rdNum l 0 8
def dc2 (l : List (BitVec 8)) := rdNum (dc1 l).1 (dc1 l).2.1 2
def dc3 (l : List (BitVec 8)) := rdNum (dc2 l).1 (dc2 l).2.1 2
def dc4 (l : List (BitVec 8)) := rdNum (dc3 l).1 (dc3 l).2.1 4
def dc5 (l : List (BitVec 8)) := rdBytes (dc4 l).1 (dc4 l).2.1 2
def dc6 (l : List (BitVec 8)) := rdNum (dc5 l).1 (dc5 l).2.1 4
def dc7 (l : List (BitVec 8)) : Int := rdEnd (dc6 l).1 (dc6 l).2.1
theorem rdN_le (L : List (BitVec 8)) (E s : Int) : (rdNum L E s).1.length ≤ L.length := by
  unfold rdNum
  split
  · split
    · simp
    · simp
  · simp
theorem rdB_le (L : List (BitVec 8)) (E s : Int) : (rdBytes L E s).1.length ≤ L.length ∧ (rdBytes L E s).2.2.length ≤ L.length := by
  unfold rdBytes
  split
  · split
    · refine ⟨by simp, ?_⟩
      simp only [List.length_take, List.length_drop]
      omega
    · simp
  · simp
theorem dc5_le (l : List (BitVec 8)) : (dc5 l).1.length ≤ l.length ∧ (dc5 l).2.2.length ≤ l.length := by
  have h1 : (dc1 l).1.length ≤ l.length := rdN_le _ _ _
  have h2 : (dc2 l).1.length ≤ (dc1 l).1.length := rdN_le _ _ _
  have h3 : (dc3 l).1.length ≤ (dc2 l).1.length := rdN_le _ _ _
  have h4 : (dc4 l).1.length ≤ (dc3 l).1.length := rdN_le _ _ _
  have h5 := rdB_le (dc4 l).1 (dc4 l).2.1 2
  exact ⟨Nat.le_trans h5.1 (by omega), Nat.le_trans h5.2 (by omega)⟩
theorem dc7_len {l : List (BitVec 8)} (h : dc7 l = 0) : 4 ≤ l.length := by
  have hE : (dc6 l).2.1 = 0 := by
    unfold dc7 rdEnd at h
    by_cases e : (dc6 l).2.1 = 0
    · exact e
    · rw [if_neg e] at h; exact h
  have hle := (dc5_le l).1
  unfold dc6 rdNum at hE
  by_cases e5 : (dc5 l).2.1 = 0
  · rw [if_pos e5] at hE
    by_cases en : numE (dc5 l).1.length 4 = 0
    · unfold numE at en
      by_cases e6 : (((dc5 l).1.length : Nat) : Int) < 4
      · rw [if_neg (by decide), if_pos e6] at en; cases en
      · omega
    · rw [if_neg en] at hE; exact absurd hE en
  · rw [if_neg e5] at hE; exact absurd hE e5
theorem num_lt7 (x : List (BitVec 8)) : ∀ (acc : BitVec 64) (k : Nat), acc.toNat < 2 ^ (8 * k) → k + x.length ≤ 8 → (x.foldl (fun (n : BitVec 64) (c : BitVec 8) => (n <<< 8) ||| c.setWidth 64) acc).toNat < 2 ^ (8 * (k + x.length)) := by
  induction x with
  | nil => intro acc k h _; simpa using h
  | cons c x ih =>
    intro acc k h hk
    rw [List.foldl_cons, List.length_cons, show k + (x.length + 1) = (k + 1) + x.length by omega]
    rw [List.length_cons] at hk
    refine ih _ (k + 1) ?_ (by omega)
    rw [BitVec.toNat_or]
    have e : (2 : Nat) ^ (8 * (k + 1)) = 2 ^ (8 * k) * 256 := by rw [show 8 * (k + 1) = 8 * k + 8 by omega, Nat.pow_add]
    refine Nat.or_lt_two_pow ?_ ?_
    · rw [BitVec.toNat_shiftLeft, Nat.shiftLeft_eq]
      refine Nat.lt_of_le_of_lt (Nat.mod_le _ _) ?_
      rw [e]; omega
    · rw [BitVec.toNat_setWidth]
      refine Nat.lt_of_le_of_lt (Nat.mod_le _ _) ?_
      have := c.isLt
      have h1 : 1 ≤ (2 : Nat) ^ (8 * k) := Nat.one_le_two_pow
      rw [e]; omega
theorem num_small (x : List (BitVec 8)) (h : x.length ≤ 4) : (num x).toNat < 4294967296 := by
  have := num_lt7 x 0#64 0 (by simp) (by omega)
  refine Nat.lt_of_lt_of_le this ?_
  rw [Nat.zero_add]
  exact Nat.pow_le_pow_right (by omega) (show 8 * x.length ≤ 32 by omega)
theorem rd4_bd (L : List (BitVec 8)) (E : Int) : 0 ≤ (rdNum L E 4).2.2 ∧ (rdNum L E 4).2.2 ≤ 4294967295 := by
  unfold rdNum
  split
  · split
    · have hn : (numTo L 0 (4 : Int).toNat).toNat < 4294967296 := by
        unfold numTo
        have hl : ((L.drop 0).take (4 : Int).toNat).length ≤ 4 := by rw [List.length_take]; exact Nat.min_le_left _ _
        exact num_small _ hl
      simp only [wrap64]
      omega
    · simp
  · simp
/-- whether a piece can be -/
def canC (id num cnt : Int) (n : Nat) : Bool := idB id && (decide (cnt ≤ 256) && (decide (num < cnt) && decide (n ≤ 4096)))
def dcE (l : List (BitVec 8)) : Int := if dc7 l = 0 then (if (dc6 l).2.2 = ((Crc.sum (l.take (l.length - 4))).toNat : Int) then (if canC (dc1 l).2.2 (dc2 l).2.2 (dc3 l).2.2 (dc5 l).2.2.length = true then 0 else 1) else 12) else dc7 l
def dcR (l : List (BitVec 8)) : Int × Int × Int × Int × List (BitVec 8) := if dcE l = 0 then ((dc1 l).2.2, (dc2 l).2.2, (dc3 l).2.2, (dc4 l).2.2, (dc5 l).2.2) else (0, 0, 0, 0, [])
set_option maxHeartbeats 2000000 in
theorem canC_any (id num cnt : Int) (s : Int) (x : Option Addr) (n cp : Nat) (w : World) (hn : (n : Int) ≤ 140737488351232) : Calls Try.prog 62 #[.agg #[.int .i64 id, .int .i64 num, .int .i64 cnt, .int .u32 s, .slice x n cp]] w fun e w' => e = .returned (.bool (canC id num cnt n)) ∧ Below w.heap.size w w' := by
  have b1 : Below w.heap.size w (w.alloc (.cells #[.int .i64 id, .int .i64 num, .int .i64 cnt, .int .u32 s, .slice x n cp] 56)) := (Below.refl _ _).alloc (Nat.le_refl _) _
  have A1 := Blk.new' w 56 [.int .i64 id, .int .i64 num, .int .i64 cnt, .int .u32 s, .slice x n cp]
  have HI : Hid _ := isId_any id (w.alloc (.cells #[.int .i64 id, .int .i64 num, .int .i64 cnt, .int .u32 s, .slice x n cp] 56))
  have y0 := blk_at A1 0
  have y1 := blk_at A1 1
  have y2 := blk_at A1 2
  have y4 := blk_at A1 4
  simp only [List.getElem?_cons_zero, List.getElem?_cons_succ] at y0 y1 y2 y4
  have HB : Hid _ := b1
  clear A1 b1
  cases hid : idB id with
  | false =>
    have HC : Hid (canC id num cnt n = false) := (by unfold canC; rw [hid]; rfl : canC id num cnt n = false)
    rw [hid] at HI
    clear hid
    go_enter Try.func62, Try.ntmps62
    go_wp2_with fail
    refine (Calls.mono HI.out) ?_
    rintro e _ ⟨rfl, rfl⟩
    go_wp2
    go_ret
    exact ⟨by rw [HC.out]; rfl, HB.out⟩
  | true =>
    rw [hid] at HI
    by_cases h1 : cnt ≤ 256
    · by_cases h2 : num < cnt
      · by_cases h3 : (n : Int) ≤ 4096
        · have HC : Hid (canC id num cnt n = true) := (by unfold canC; rw [hid, decide_eq_true h1, decide_eq_true h2, decide_eq_true (show n ≤ 4096 by omega)]; rfl : canC id num cnt n = true)
          clear hid
          go_enter Try.func62, Try.ntmps62
          go_wp2_with fail
          refine (Calls.mono HI.out) ?_
          rintro e _ ⟨rfl, rfl⟩
          go_wp2
          go_ret
          exact ⟨by rw [HC.out]; rfl, HB.out⟩
        · have HC : Hid (canC id num cnt n = false) := (by unfold canC; rw [decide_eq_false (show ¬ n ≤ 4096 by omega)]; simp : canC id num cnt n = false)
          have h3' : decide ((n : Int) ≤ 4096) = false := decide_eq_false h3
          clear hid h3
          go_enter Try.func62, Try.ntmps62
          go_wp2_with fail
          refine (Calls.mono HI.out) ?_
          rintro e _ ⟨rfl, rfl⟩
          go_wp2
          go_ret
          exact ⟨by rw [HC.out]; rfl, HB.out⟩
      · have HC : Hid (canC id num cnt n = false) := (by unfold canC; rw [decide_eq_false h2]; simp : canC id num cnt n = false)
        clear hid
        go_enter Try.func62, Try.ntmps62
        go_wp2_with fail
        refine (Calls.mono HI.out) ?_
        rintro e _ ⟨rfl, rfl⟩
        go_wp2
        go_ret
        exact ⟨by rw [HC.out]; rfl, HB.out⟩
    · have HC : Hid (canC id num cnt n = false) := (by unfold canC; rw [decide_eq_false h1]; simp : canC id num cnt n = false)
      clear hid
      go_enter Try.func62, Try.ntmps62
      go_wp2_with fail
      refine (Calls.mono HI.out) ?_
      rintro e _ ⟨rfl, rfl⟩
      go_wp2
      go_ret
      exact ⟨by rw [HC.out]; rfl, HB.out⟩
/-- a piece under way: the result's block, the piece's, the reader's -/
structure DcR (W0 w : World) (rb xb g : Nat) (L : List (BitVec 8)) (E : Int) (xs : List Value) : Prop where
  rd : Rd w [xb] g 131 L E
  xblk : Blk w xb 56 xs
  rblk : Blk w rb 56 [.int .i64 0, .int .i64 0, .int .i64 0, .int .u32 0, .slice none 0 0]
  below : Below W0.heap.size W0 w
  r_g : rb < g
  g_x : g < xb
  base_r : W0.heap.size ≤ rb
theorem DcR.num {W0 w w' : World} {rb xb g : Nat} {L L' : List (BitVec 8)} {E E' : Int} {xs : List Value} (h : DcR W0 w rb xb g L E xs) (R : Rd w' [xb] g 131 L' E') (hg : w.grownBy w' (some g)) : DcR W0 w' rb xb g L' E' xs := by
  have h1 := h.r_g
  have h2 := h.g_x
  have h3 := h.base_r
  exact ⟨R, h.xblk.grown hg (fun e => by injection e with e; omega), h.rblk.grown hg (fun e => by injection e with e; omega), h.below.trans (grown_below hg _ (by omega) h.below.size), h1, h2, h3⟩
theorem DcR.set {W0 w : World} {rb xb g : Nat} {L : List (BitVec 8)} {E : Int} {xs : List Value} (h : DcR W0 w rb xb g L E xs) (i : Nat) (u : Value) : DcR W0 (w.setCell ⟨xb, i, none⟩ u) rb xb g L E (xs.set i u) := by
  have h1 := h.r_g
  have h2 := h.g_x
  have h3 := h.base_r
  have hg := grown_set w xb i u
  exact ⟨h.rd.keep hg (fun k e => by injection e with e; subst e; exact ⟨by omega, .inl (by simp)⟩), h.xblk.set i u, h.rblk.grown hg (fun e => by injection e with e; omega), h.below.trans (grown_below hg _ (by omega) h.below.size), h1, h2, h3⟩
theorem DcR.later {W0 w w' : World} {rb xb g : Nat} {L : List (BitVec 8)} {E : Int} {xs : List Value} (h : DcR W0 w rb xb g L E xs) (hb : Below w.heap.size w w') : DcR W0 w' rb xb g L E xs :=
  ⟨h.rd.later hb, h.xblk.laterB hb, h.rblk.laterB hb, below_then h.below hb, h.r_g, h.g_x, h.base_r⟩
theorem grown_twice7 {a b c : World} {g : Nat} (h : a.grownBy b (some g)) (k : b.grownBy c (some g)) : a.grownBy c (some g) :=
  ⟨k.os.trans h.os, k.tape.trans h.tape, k.output.trans h.output, Nat.le_trans h.size k.size, fun i hi hr => (k.block i (Nat.lt_of_lt_of_le hi h.size) hr).trans (h.block i hi hr)⟩
theorem set5_c {w : World} {g : Nat} {T : TypeId} {xs : List Value} (M : Blk w g T xs) (hx : xs.length = 5) (a b c d e : Value) (B : Nat) (W0 : World) (hb : Below B W0 w) (hB : B ≤ g) (hs : B ≤ w.heap.size) :
    Blk (((((w.setCell ⟨g, 0, none⟩ a).setCell ⟨g, 1, none⟩ b).setCell ⟨g, 2, none⟩ c).setCell ⟨g, 3, none⟩ d).setCell ⟨g, 4, none⟩ e) g T [a, b, c, d, e] ∧ w.grownBy (((((w.setCell ⟨g, 0, none⟩ a).setCell ⟨g, 1, none⟩ b).setCell ⟨g, 2, none⟩ c).setCell ⟨g, 3, none⟩ d).setCell ⟨g, 4, none⟩ e) (some g) ∧ Below B W0 (((((w.setCell ⟨g, 0, none⟩ a).setCell ⟨g, 1, none⟩ b).setCell ⟨g, 2, none⟩ c).setCell ⟨g, 3, none⟩ d).setCell ⟨g, 4, none⟩ e) := by
  have h := ((((M.set 0 a).set 1 b).set 2 c).set 3 d).set 4 e
  match xs, hx with
  | [p, q, r, s, t], _ =>
    have k := grown_twice7 (grown_twice7 (grown_twice7 (grown_twice7 (grown_set w g 0 a) (grown_set _ g 1 b)) (grown_set _ g 2 c)) (grown_set _ g 3 d)) (grown_set _ g 4 e)
    exact ⟨h, k, hb.trans (grown_below k _ hB hs)⟩
set_option maxHeartbeats 8000000 in
theorem decode_any (a : Option Addr) (cap : Nat) (l : List (BitVec 8)) (w : World) (hle : l.length ≤ cap) (hr : Row w a l) (hn : a = none → cap = 0) (hlen : l.length ≤ 140737488351232) :
    Calls Try.prog 35 #[.slice a l.length cap] w fun r w' => ∃ x c, r = .returned (.tuple #[.agg #[.int .i64 (dcR l).1, .int .i64 (dcR l).2.1, .int .i64 (dcR l).2.2.1, .int .u32 (dcR l).2.2.2.1, .slice x (dcR l).2.2.2.2.length c], .int .i64 (dcE l)]) ∧ Own w' w.heap.size (.slice x (dcR l).2.2.2.2.length c) (dcR l).2.2.2.2 ∧ Below w.heap.size w w' := by
  have b0 : Below w.heap.size w (w.alloc (.cells #[.int .i64 0, .int .i64 0, .int .i64 0, .int .u32 0, .slice none 0 0] 56)) := (Below.refl _ _).alloc (Nat.le_refl _) _
  have M0 : Blk (w.alloc (.cells #[.int .i64 0, .int .i64 0, .int .i64 0, .int .u32 0, .slice none 0 0] 56)) w.heap.size 56 [.int .i64 0, .int .i64 0, .int .i64 0, .int .u32 0, .slice none 0 0] := Blk.new' w _ _
  have HR : Hid _ := And.intro hr trivial
  clear hr
  go_enter Try.func35, Try.ntmps35
  go_wp2_with fail
  generalize w.alloc (.cells #[.int .i64 0, .int .i64 0, .int .i64 0, .int .u32 0, .slice none 0 0] 56) = wb at *
  refine (NewReader_any a l.length cap l wb rfl hle (Row.later HR.out.1 b0) hn hlen).mono ?_
  rintro r w1 ⟨g, rfl, hg, hrd, b1⟩
  have G1 : Hid (DcR w (w1.alloc (.cells #[.int .i64 0, .int .i64 0, .int .i64 0, .int .u32 0, .slice none 0 0] 56)) w.heap.size w1.heap.size g l 0 [.int .i64 0, .int .i64 0, .int .i64 0, .int .u32 0, .slice none 0 0]) := by
    have b2 : Below w1.heap.size w1 (w1.alloc (.cells #[.int .i64 0, .int .i64 0, .int .i64 0, .int .u32 0, .slice none 0 0] 56)) := (Below.refl _ _).alloc (Nat.le_refl _) _
    have R1 := hrd [] (fun k hk => by cases hk)
    exact ⟨(R1.more w1.heap.size (Nat.le_refl _)).later b2, Blk.new' w1 _ _, (M0.laterB b1).laterB b2, below_then (below_then b0 b1) b2, Nat.lt_of_lt_of_le M0.lt hg, R1.blt, Nat.le_refl _⟩
  have N1 : Hid _ := Num_any [w1.heap.size] g l 0 8 (w1.alloc (.cells #[.int .i64 0, .int .i64 0, .int .i64 0, .int .u32 0, .slice none 0 0] 56)) G1.out.rd
  clear hrd b1 b0 M0
  obtain ⟨xb, hxb⟩ : ∃ xb, xb = w1.heap.size := ⟨_, rfl⟩
  go_wp2_with fail
  rw [← hxb] at G1 N1 ⊢
  generalize w1.alloc (.cells #[.int .i64 0, .int .i64 0, .int .i64 0, .int .u32 0, .slice none 0 0] 56) = v1 at *
  clear hxb
  obtain ⟨K1, hK1⟩ : ∃ K, K = (dc1 l).2.2 := ⟨_, rfl⟩
  refine (Calls.mono N1.out) ?_
  rintro r u1 ⟨rfl, R1, g1⟩
  rw [show (rdNum l 0 8).2.2 = K1 from hK1.symm]
  have HK1 : Hid _ := hK1
  clear hK1
  have A1 : Hid (DcR w u1 w.heap.size xb g (dc1 l).1 (dc1 l).2.1 [.int .i64 0, .int .i64 0, .int .i64 0, .int .u32 0, .slice none 0 0]) := G1.out.num R1 g1
  have G2 : Hid (DcR w (u1.setCell ⟨xb, 0, none⟩ (.int .i64 K1)) w.heap.size xb g (dc1 l).1 (dc1 l).2.1 [.int .i64 K1, .int .i64 0, .int .i64 0, .int .u32 0, .slice none 0 0]) := A1.out.set 0 (.int .i64 K1)
  have c1 := blk_at A1.out.xblk 0
  have f1 := A1.out.xblk.frozen (by simp [maxLen]) 0
  simp only [List.getElem?_cons_zero, List.getElem?_cons_succ] at c1
  have N2 : Hid _ := Num_any [xb] g (dc1 l).1 (dc1 l).2.1 2 _ G2.out.rd
  clear R1 g1 N1 G1 A1
  go_wp2_with fail
  clear c1 f1
  generalize u1.setCell ⟨xb, 0, none⟩ (.int .i64 K1) = v2 at *
  obtain ⟨K2, hK2⟩ : ∃ K, K = (dc2 l).2.2 := ⟨_, rfl⟩
  refine (Calls.mono N2.out) ?_
  rintro r u2 ⟨rfl, R2, g2⟩
  rw [show (rdNum (dc1 l).1 (dc1 l).2.1 2).2.2 = K2 from hK2.symm]
  have HK2 : Hid _ := hK2
  clear hK2
  have A2 : Hid (DcR w u2 w.heap.size xb g (dc2 l).1 (dc2 l).2.1 [.int .i64 K1, .int .i64 0, .int .i64 0, .int .u32 0, .slice none 0 0]) := G2.out.num R2 g2
  have G3 : Hid (DcR w (u2.setCell ⟨xb, 1, none⟩ (.int .i64 K2)) w.heap.size xb g (dc2 l).1 (dc2 l).2.1 [.int .i64 K1, .int .i64 K2, .int .i64 0, .int .u32 0, .slice none 0 0]) := A2.out.set 1 (.int .i64 K2)
  have c2 := blk_at A2.out.xblk 1
  have f2 := A2.out.xblk.frozen (by simp [maxLen]) 1
  simp only [List.getElem?_cons_zero, List.getElem?_cons_succ] at c2
  have N3 : Hid _ := Num_any [xb] g (dc2 l).1 (dc2 l).2.1 2 _ G3.out.rd
  clear R2 g2 N2 G2 A2
  go_wp2_with fail
  clear c2 f2
  generalize u2.setCell ⟨xb, 1, none⟩ (.int .i64 K2) = v3 at *
  obtain ⟨K3, hK3⟩ : ∃ K, K = (dc3 l).2.2 := ⟨_, rfl⟩
  refine (Calls.mono N3.out) ?_
  rintro r u3 ⟨rfl, R3, g3⟩
  rw [show (rdNum (dc2 l).1 (dc2 l).2.1 2).2.2 = K3 from hK3.symm]
  have HK3 : Hid _ := hK3
  clear hK3
  have A3 : Hid (DcR w u3 w.heap.size xb g (dc3 l).1 (dc3 l).2.1 [.int .i64 K1, .int .i64 K2, .int .i64 0, .int .u32 0, .slice none 0 0]) := G3.out.num R3 g3
  have G4 : Hid (DcR w (u3.setCell ⟨xb, 2, none⟩ (.int .i64 K3)) w.heap.size xb g (dc3 l).1 (dc3 l).2.1 [.int .i64 K1, .int .i64 K2, .int .i64 K3, .int .u32 0, .slice none 0 0]) := A3.out.set 2 (.int .i64 K3)
  have c3 := blk_at A3.out.xblk 2
  have f3 := A3.out.xblk.frozen (by simp [maxLen]) 2
  simp only [List.getElem?_cons_zero, List.getElem?_cons_succ] at c3
  have N4 : Hid _ := Num_any [xb] g (dc3 l).1 (dc3 l).2.1 4 _ G4.out.rd
  clear R3 g3 N3 G3 A3
  go_wp2_with fail
  clear c3 f3
  generalize u3.setCell ⟨xb, 2, none⟩ (.int .i64 K3) = v4 at *
  obtain ⟨K4, hK4⟩ : ∃ K, K = (dc4 l).2.2 := ⟨_, rfl⟩
  refine (Calls.mono N4.out) ?_
  rintro r u4 ⟨rfl, R4, g4⟩
  rw [show (rdNum (dc3 l).1 (dc3 l).2.1 4).2.2 = K4 from hK4.symm]
  have hb4 : 0 ≤ K4 ∧ K4 ≤ 4294967295 := by rw [hK4]; exact rd4_bd _ _
  have hw4 : IntKind.u32.wrap K4 = K4 := by unfold IntKind.wrap; simp [IntKind.signed, IntKind.bits]; omega
  have HK4 : Hid _ := hK4
  clear hK4
  have A4 : Hid (DcR w u4 w.heap.size xb g (dc4 l).1 (dc4 l).2.1 [.int .i64 K1, .int .i64 K2, .int .i64 K3, .int .u32 0, .slice none 0 0]) := G4.out.num R4 g4
  have G5 : Hid (DcR w (u4.setCell ⟨xb, 3, none⟩ (.int .u32 K4)) w.heap.size xb g (dc4 l).1 (dc4 l).2.1 [.int .i64 K1, .int .i64 K2, .int .i64 K3, .int .u32 K4, .slice none 0 0]) := A4.out.set 3 (.int .u32 K4)
  have c4 := blk_at A4.out.xblk 3
  have f4 := A4.out.xblk.frozen (by simp [maxLen]) 3
  simp only [List.getElem?_cons_zero, List.getElem?_cons_succ] at c4
  have N5 : Hid _ := Bytes_any [xb] g (dc4 l).1 (dc4 l).2.1 2 _ G5.out.rd
  clear R4 g4 N4 G4 A4
  go_wp2_with fail
  clear c4 f4
  generalize u4.setCell ⟨xb, 3, none⟩ (.int .u32 K4) = v5 at *
  clear hw4
  refine (Calls.mono N5.out) ?_
  rintro r u5 ⟨v, rfl, o5, R5, g5⟩
  obtain ⟨C, hC⟩ : ∃ C, C = (dc5 l).2.2 := ⟨_, rfl⟩
  rw [show (rdBytes (dc4 l).1 (dc4 l).2.1 2).2.2 = C from hC.symm] at o5
  have hCb : C.length ≤ 140737488351232 := by rw [hC]; exact Nat.le_trans (dc5_le l).2 hlen
  obtain ⟨x, c, rfl, -, -, -, -, -⟩ := o5.open
  have HC : Hid _ := hC
  clear hC
  have A5 : Hid (DcR w u5 w.heap.size xb g (dc5 l).1 (dc5 l).2.1 [.int .i64 K1, .int .i64 K2, .int .i64 K3, .int .u32 K4, .slice none 0 0]) := G5.out.num (R5.less (F' := [xb]) (fun k hk => List.mem_append_right _ hk)) g5
  have G6 : Hid (DcR w (u5.setCell ⟨xb, 4, none⟩ (.slice x C.length c)) w.heap.size xb g (dc5 l).1 (dc5 l).2.1 [.int .i64 K1, .int .i64 K2, .int .i64 K3, .int .u32 K4, .slice x C.length c]) := A5.out.set 4 (.slice x C.length c)
  have O6 : Hid (Own (u5.setCell ⟨xb, 4, none⟩ (.slice x C.length c)) v5.heap.size (.slice x C.length c) C ∧ xb < v5.heap.size) := ⟨o5.keep (grown_set _ _ _ _) (fun k hk e => by
    have h1 := (World.ownsRow.lt o5 k hk).1
    have h2 := G5.out.xblk.lt
    injection e with e
    omega), G5.out.xblk.lt⟩
  have c5 := blk_at A5.out.xblk 4
  have f5 := A5.out.xblk.frozen (by simp [maxLen]) 4
  simp only [List.getElem?_cons_zero, List.getElem?_cons_succ] at c5
  have N6 : Hid _ := Num_any [xb] g (dc5 l).1 (dc5 l).2.1 4 _ G6.out.rd
  clear o5 R5 g5 N5 G5 A5
  go_wp2_with fail
  clear c5 f5
  generalize u5.setCell ⟨xb, 4, none⟩ (.slice x C.length c) = v6 at *
  obtain ⟨S6, hS6⟩ : ∃ K, K = (dc6 l).2.2 := ⟨_, rfl⟩
  refine (Calls.mono N6.out) ?_
  rintro r u6 ⟨rfl, R6, g6⟩
  rw [show (rdNum (dc5 l).1 (dc5 l).2.1 4).2.2 = S6 from hS6.symm]
  have HS6 : Hid _ := hS6
  clear hS6
  have G7 : Hid (DcR w u6 w.heap.size xb g (dc6 l).1 (dc6 l).2.1 [.int .i64 K1, .int .i64 K2, .int .i64 K3, .int .u32 K4, .slice x C.length c]) := G6.out.num R6 g6
  have O7 : Hid (Own u6 v5.heap.size (.slice x C.length c) C ∧ xb < v5.heap.size) := ⟨O6.out.1.keep g6 (fun k hk e => by
    have h1 := (World.ownsRow.lt O6.out.1 k hk).1
    have h2 := O6.out.2
    have h3 := G6.out.g_x
    injection e with e
    omega), O6.out.2⟩
  have N7 : Hid _ := End_any [xb] g (dc6 l).1 (dc6 l).2.1 _ G7.out.rd
  clear R6 g6 N6 G6 O6
  go_wp2_with fail
  refine (Calls.mono N7.out) ?_
  rintro r _ ⟨rfl, rfl⟩
  obtain ⟨E, hE⟩ : ∃ E, E = dc7 l := ⟨_, rfl⟩
  rw [show rdEnd (dc6 l).1 (dc6 l).2.1 = E from hE.symm]
  have HE : Hid _ := hE
  clear hE N7
  by_cases e0 : E = 0
  · have e7 : dc7 l = 0 := by rw [← HE.out]; exact e0
    have h4 := dc7_len e7
    have q0 : (E == 0) = true := by rw [beq_iff_eq]; exact e0
    have NS : Hid (Calls Try.prog 28 #[.slice a (l.length - 4) cap] u6 fun e w'' => e = .returned (.int .u32 ((Crc.sum (l.take (l.length - 4))).toNat : Int)) ∧ w'' = u6) := sum_any a (l.length - 4) cap (l.take (l.length - 4)) u6 (by rw [List.length_take]; omega) (by unfold maxLen; omega) ((HR.out.1.later G7.out.below).takes (l.length - 4))
    have hQ := (Crc.sum (l.take (l.length - 4))).isLt
    obtain ⟨Q, hQe⟩ : ∃ Q : Int, Q = ((Crc.sum (l.take (l.length - 4))).toNat : Int) := ⟨_, rfl⟩
    rw [← hQe] at NS
    have hQ1 : 0 ≤ Q ∧ Q ≤ 4294967295 := by omega
    have HQ : Hid _ := hQe
    have q1 : (4 : Int) ≤ (l.length : Int) := by omega
    have q2 : (l.length : Int) ≤ 140737488351232 := by omega
    have q3 : (l.length : Int) - 4 ≤ (cap : Int) := by omega
    have q4 : ((l.length : Int) - 4).toNat = l.length - 4 := by omega
    have q5 : (0 : Int) ≤ (l.length : Int) - 4 := by omega
    clear hQ hQe h4 e0
    by_cases es : S6 = Q
    · have es' : (S6 == Q) = true := by rw [beq_iff_eq]; exact es
      have NC : Hid (∀ W, _) := fun W => canC_any K1 K2 K3 K4 x C.length c W (by omega)
      have z0 := blk_at G7.out.xblk 0
      have z1 := blk_at G7.out.xblk 1
      have z2 := blk_at G7.out.xblk 2
      have z3 := blk_at G7.out.xblk 3
      have z4 := blk_at G7.out.xblk 4
      simp only [List.getElem?_cons_zero, List.getElem?_cons_succ] at z0 z1 z2 z3 z4
      clear es
      go_wp2_with fail
      refine (Calls.mono NS.out) ?_
      rintro e w9 ⟨rfl, rfl⟩
      go_wp2_with fail
      refine (Calls.mono (NC.out _)) ?_
      rintro e w8 ⟨rfl, b8⟩
      have G8 : Hid _ := G7.out.later b8
      have O8 : Hid _ := And.intro (O7.out.1.later b8) O7.out.2
      clear z0 z1 z2 z3 z4
      cases hcc : canC K1 K2 K3 C.length with
      | true =>
        have P : Hid (dcR l = (K1, K2, K3, K4, C) ∧ dcE l = 0) := by
          have h1 : dcE l = 0 := by unfold dcE; rw [if_pos e7, ← HS6.out, ← HQ.out, if_pos (by simpa using es'), ← HK1.out, ← HK2.out, ← HK3.out, ← HC.out, if_pos hcc]
          refine ⟨?_, h1⟩
          unfold dcR
          rw [if_pos h1, ← HK1.out, ← HK2.out, ← HK3.out, ← HK4.out, ← HC.out]
        have S7 := set5_c G8.out.rblk rfl (.int .i64 K1) (.int .i64 K2) (.int .i64 K3) (.int .u32 K4) (.slice x C.length c) w.heap.size w G8.out.below (Nat.le_refl _) G8.out.below.size
        have F : Hid _ := And.intro S7.1 (And.intro S7.2.2 ((O8.out.1.keep S7.2.1 (fun k hk e => by
          have h1 := (World.ownsRow.lt O8.out.1 k hk).1
          have h2 := O8.out.2
          have h3 := G8.out.g_x
          have h4 := G8.out.r_g
          injection e with e
          omega)).lower (show w.heap.size ≤ v5.heap.size by have h2 := O8.out.2; have h3 := G8.out.g_x; have h4 := G8.out.r_g; omega)))
        have y0 := blk_at G8.out.rblk 0
        have y1 := blk_at G8.out.rblk 1
        have y2 := blk_at G8.out.rblk 2
        have y3 := blk_at G8.out.rblk 3
        have y4 := blk_at G8.out.rblk 4
        simp only [List.getElem?_cons_zero, List.getElem?_cons_succ] at y0 y1 y2 y3 y4
        have f0 := blk_frozen G8.out.rblk 0
        have f1 := blk_frozen G8.out.rblk 1
        have f2 := blk_frozen G8.out.rblk 2
        have f3 := blk_frozen G8.out.rblk 3
        have f4 := blk_frozen G8.out.rblk 4
        have z0 := blk_at G8.out.xblk 0
        have z1 := blk_at G8.out.xblk 1
        have z2 := blk_at G8.out.xblk 2
        have z3 := blk_at G8.out.xblk 3
        have z4 := blk_at G8.out.xblk 4
        simp only [List.getElem?_cons_zero, List.getElem?_cons_succ] at z0 z1 z2 z3 z4
        clear S7 G7 G8 O7 O8 b8 NC NS hcc
        go_wp2
        clear y0 y1 y2 y3 y4 f0 f1 f2 f3 f4 z0 z1 z2 z3 z4
        generalize (((((w8.setCell ⟨w.heap.size, 0, none⟩ (.int .i64 K1)).setCell ⟨w.heap.size, 1, none⟩ (.int .i64 K2)).setCell ⟨w.heap.size, 2, none⟩ (.int .i64 K3)).setCell ⟨w.heap.size, 3, none⟩ (.int .u32 K4)).setCell ⟨w.heap.size, 4, none⟩ (.slice x C.length c)) = wf at *
        have y0 := blk_at F.out.1 0
        have y1 := blk_at F.out.1 1
        have y2 := blk_at F.out.1 2
        have y3 := blk_at F.out.1 3
        have y4 := blk_at F.out.1 4
        simp only [List.getElem?_cons_zero, List.getElem?_cons_succ] at y0 y1 y2 y3 y4
        refine bodyPost_ret (v := .tuple #[.agg #[.int .i64 K1, .int .i64 K2, .int .i64 K3, .int .u32 K4, .slice x C.length c], .int .i64 0]) (by simp [results, Try.results35, go_sem, y0, y1, y2, y3, y4]) rfl ?_
        rw [P.out.1, P.out.2]
        exact ⟨x, c, rfl, F.out.2.2, F.out.2.1⟩
      | false =>
        have P : Hid (dcR l = (0, 0, 0, 0, []) ∧ dcE l = 1) := by
          have h1 : dcE l = 1 := by unfold dcE; rw [if_pos e7, ← HS6.out, ← HQ.out, if_pos (by simpa using es'), ← HK1.out, ← HK2.out, ← HK3.out, ← HC.out, hcc]; rfl
          refine ⟨?_, h1⟩
          unfold dcR
          rw [h1, if_neg (by decide)]
        clear hcc
        have S7 := set5_c G8.out.rblk rfl (.int .i64 0) (.int .i64 0) (.int .i64 0) (.int .u32 0) (.slice none 0 0) w.heap.size w G8.out.below (Nat.le_refl _) G8.out.below.size
        have F : Hid _ := And.intro S7.1 S7.2.2
        have y0 := blk_at G8.out.rblk 0
        have y1 := blk_at G8.out.rblk 1
        have y2 := blk_at G8.out.rblk 2
        have y3 := blk_at G8.out.rblk 3
        have y4 := blk_at G8.out.rblk 4
        simp only [List.getElem?_cons_zero, List.getElem?_cons_succ] at y0 y1 y2 y3 y4
        have f0 := blk_frozen G8.out.rblk 0
        have f1 := blk_frozen G8.out.rblk 1
        have f2 := blk_frozen G8.out.rblk 2
        have f3 := blk_frozen G8.out.rblk 3
        have f4 := blk_frozen G8.out.rblk 4
        clear S7 G7 G8 O7 O8 b8 NC NS
        go_wp2
        clear y0 y1 y2 y3 y4 f0 f1 f2 f3 f4
        generalize (((((w8.setCell ⟨w.heap.size, 0, none⟩ (.int .i64 0)).setCell ⟨w.heap.size, 1, none⟩ (.int .i64 0)).setCell ⟨w.heap.size, 2, none⟩ (.int .i64 0)).setCell ⟨w.heap.size, 3, none⟩ (.int .u32 0)).setCell ⟨w.heap.size, 4, none⟩ (.slice none 0 0)) = wf at *
        have y0 := blk_at F.out.1 0
        have y1 := blk_at F.out.1 1
        have y2 := blk_at F.out.1 2
        have y3 := blk_at F.out.1 3
        have y4 := blk_at F.out.1 4
        simp only [List.getElem?_cons_zero, List.getElem?_cons_succ] at y0 y1 y2 y3 y4
        refine bodyPost_ret (v := .tuple #[.agg #[.int .i64 0, .int .i64 0, .int .i64 0, .int .u32 0, .slice none 0 0], .int .i64 1]) (by simp [results, Try.results35, go_sem, y0, y1, y2, y3, y4]) rfl ?_
        rw [P.out.1, P.out.2]
        exact ⟨none, 0, rfl, Own.nil _ _, F.out.2⟩
    · have P : Hid (dcR l = (0, 0, 0, 0, []) ∧ dcE l = 12) := by
        have h1 : dcE l = 12 := by unfold dcE; rw [if_pos e7, ← HS6.out, ← HQ.out, if_neg es]
        refine ⟨?_, h1⟩
        unfold dcR
        rw [h1, if_neg (by decide)]
      have es' : (S6 == Q) = false := by rw [beq_eq_false_iff_ne]; exact es
      go_wp2_with fail
      refine (Calls.mono NS.out) ?_
      rintro e w9 ⟨rfl, rfl⟩
      have S7 := set5_c G7.out.rblk rfl (.int .i64 0) (.int .i64 0) (.int .i64 0) (.int .u32 0) (.slice none 0 0) w.heap.size w G7.out.below (Nat.le_refl _) G7.out.below.size
      have F : Hid _ := And.intro S7.1 S7.2.2
      have y0 := blk_at G7.out.rblk 0
      have y1 := blk_at G7.out.rblk 1
      have y2 := blk_at G7.out.rblk 2
      have y3 := blk_at G7.out.rblk 3
      have y4 := blk_at G7.out.rblk 4
      simp only [List.getElem?_cons_zero, List.getElem?_cons_succ] at y0 y1 y2 y3 y4
      have f0 := blk_frozen G7.out.rblk 0
      have f1 := blk_frozen G7.out.rblk 1
      have f2 := blk_frozen G7.out.rblk 2
      have f3 := blk_frozen G7.out.rblk 3
      have f4 := blk_frozen G7.out.rblk 4
      clear S7 O7 G7 NS
      go_wp2
      clear y0 y1 y2 y3 y4 f0 f1 f2 f3 f4
      generalize (((((w9.setCell ⟨w.heap.size, 0, none⟩ (.int .i64 0)).setCell ⟨w.heap.size, 1, none⟩ (.int .i64 0)).setCell ⟨w.heap.size, 2, none⟩ (.int .i64 0)).setCell ⟨w.heap.size, 3, none⟩ (.int .u32 0)).setCell ⟨w.heap.size, 4, none⟩ (.slice none 0 0)) = wf at *
      have y0 := blk_at F.out.1 0
      have y1 := blk_at F.out.1 1
      have y2 := blk_at F.out.1 2
      have y3 := blk_at F.out.1 3
      have y4 := blk_at F.out.1 4
      simp only [List.getElem?_cons_zero, List.getElem?_cons_succ] at y0 y1 y2 y3 y4
      refine bodyPost_ret (v := .tuple #[.agg #[.int .i64 0, .int .i64 0, .int .i64 0, .int .u32 0, .slice none 0 0], .int .i64 12]) (by simp [results, Try.results35, go_sem, y0, y1, y2, y3, y4]) rfl ?_
      rw [P.out.1, P.out.2]
      exact ⟨none, 0, rfl, Own.nil _ _, F.out.2⟩
  · have P : Hid (dcR l = (0, 0, 0, 0, []) ∧ dcE l = E) := by
      have h1 : dcE l = E := by unfold dcE; rw [← HE.out, if_neg e0]
      refine ⟨?_, h1⟩
      unfold dcR
      rw [h1, if_neg e0]
    have q0 : (E == 0) = false := by rw [beq_eq_false_iff_ne]; exact e0
    have S7 := set5_c G7.out.rblk rfl (.int .i64 0) (.int .i64 0) (.int .i64 0) (.int .u32 0) (.slice none 0 0) w.heap.size w G7.out.below (Nat.le_refl _) G7.out.below.size
    have F : Hid _ := And.intro S7.1 S7.2.2
    have y0 := blk_at G7.out.rblk 0
    have y1 := blk_at G7.out.rblk 1
    have y2 := blk_at G7.out.rblk 2
    have y3 := blk_at G7.out.rblk 3
    have y4 := blk_at G7.out.rblk 4
    simp only [List.getElem?_cons_zero, List.getElem?_cons_succ] at y0 y1 y2 y3 y4
    have f0 := blk_frozen G7.out.rblk 0
    have f1 := blk_frozen G7.out.rblk 1
    have f2 := blk_frozen G7.out.rblk 2
    have f3 := blk_frozen G7.out.rblk 3
    have f4 := blk_frozen G7.out.rblk 4
    clear S7 O7 G7
    go_wp2
    clear y0 y1 y2 y3 y4 f0 f1 f2 f3 f4
    generalize (((((u6.setCell ⟨w.heap.size, 0, none⟩ (.int .i64 0)).setCell ⟨w.heap.size, 1, none⟩ (.int .i64 0)).setCell ⟨w.heap.size, 2, none⟩ (.int .i64 0)).setCell ⟨w.heap.size, 3, none⟩ (.int .u32 0)).setCell ⟨w.heap.size, 4, none⟩ (.slice none 0 0)) = wf at *
    have y0 := blk_at F.out.1 0
    have y1 := blk_at F.out.1 1
    have y2 := blk_at F.out.1 2
    have y3 := blk_at F.out.1 3
    have y4 := blk_at F.out.1 4
    simp only [List.getElem?_cons_zero, List.getElem?_cons_succ] at y0 y1 y2 y3 y4
    refine bodyPost_ret (v := .tuple #[.agg #[.int .i64 0, .int .i64 0, .int .i64 0, .int .u32 0, .slice none 0 0], .int .i64 E]) (by simp [results, Try.results35, go_sem, y0, y1, y2, y3, y4]) rfl ?_
    rw [P.out.1, P.out.2]
    exact ⟨none, 0, rfl, Own.nil _ _, F.out.2⟩
end Go.Proofs.Ytgonglbgejaffaa

/- There and back: the piece of its bytes. -/
namespace Go.Proofs.Ytgonglbgejaffaa
open Go.RowKit
set_option linter.unusedVariables false
set_option linter.unusedSimpArgs false
set_option maxRecDepth 4000

theorem num_mod7 (k : Nat) (hk : k ≤ 8) (x : BitVec 64) : (num (be k x)).toNat = x.toNat % 2 ^ (8 * k) := by
  induction k generalizing x with
  | zero =>
    have : be 0 x = [] := by simp [be, be8]
    rw [this]
    simp [num, Nat.mod_one]
  | succ k ih =>
    rw [be_snoc k x hk, num_snoc, BitVec.toNat_or, BitVec.toNat_shiftLeft, ih (by omega), BitVec.toNat_setWidth, BitVec.toNat_setWidth, BitVec.toNat_ushiftRight, Nat.shiftRight_eq_div_pow]
    have hA : x.toNat / 2 ^ 8 % 2 ^ (8 * k) < 2 ^ 56 := Nat.lt_of_lt_of_le (Nat.mod_lt _ (Nat.two_pow_pos _)) (Nat.pow_le_pow_right (by omega) (by omega))
    have hm : x.toNat % 2 ^ (8 * (k + 1)) = x.toNat % 256 + 256 * (x.toNat / 2 ^ 8 % 2 ^ (8 * k)) := by
      rw [show 8 * (k + 1) = 8 + 8 * k by omega, Nat.pow_add, Nat.mod_mul]
    rw [hm]
    generalize x.toNat / 2 ^ 8 % 2 ^ (8 * k) = A at *
    rw [Nat.shiftLeft_eq, Nat.mod_eq_of_lt (show A * 2 ^ 8 < 2 ^ 64 by omega), Nat.mod_eq_of_lt (show x.toNat % 2 ^ 8 < 2 ^ 64 by omega), ← Nat.shiftLeft_eq, ← Nat.shiftLeft_add_eq_or_of_lt (show x.toNat % 2 ^ 8 < 2 ^ 8 by omega), Nat.shiftLeft_eq]
    omega
theorem rd_num7 (s : Nat) (n : Int) (Y : List (BitVec 8)) (h1 : s = 2 ∨ s = 4 ∨ s = 8) (h0 : 0 ≤ n) (hb : n < 2 ^ (8 * s)) (hb2 : n ≤ 9223372036854775807) : rdNum (be s (BitVec.ofInt 64 n) ++ Y) 0 s = (Y, 0, n) := by
  have hbl := be_length s (BitVec.ofInt 64 n) (by omega)
  have hnE : numE (be s (BitVec.ofInt 64 n) ++ Y).length s = 0 := by
    unfold numE
    have hw : widthB s = true := by unfold widthB; rw [decide_eq_true_eq]; omega
    rw [hw, if_neg (by decide), List.length_append, hbl, if_neg (by omega)]
  have e : ((numTo (be s (BitVec.ofInt 64 n) ++ Y) 0 s).toNat : Int) = n % 18446744073709551616 % 2 ^ (8 * s) := by
    unfold numTo
    rw [List.drop_zero, List.take_left' hbl, num_mod7 s (by omega), Int.natCast_emod, ← toU64]
    simp
  unfold rdNum
  rw [if_pos rfl, if_pos hnE, Int.toNat_natCast, List.drop_left' hbl, e]
  have : wrap64 (n % 18446744073709551616 % 2 ^ (8 * s)) = n := by
    unfold wrap64
    rcases h1 with rfl | rfl | rfl <;> simp only [Nat.reduceMul, Int.reducePow] at hb ⊢ <;> omega
  rw [this]
theorem rd_bytes7 (l Y : List (BitVec 8)) (h : l.length ≤ 4096) : rdBytes ((be 2 (BitVec.ofNat 64 l.length) ++ l) ++ Y) 0 2 = (Y, 0, l) := by
  have hbl := be_length 2 (BitVec.ofNat 64 l.length) (by omega)
  have hnum : (numTo ((be 2 (BitVec.ofNat 64 l.length) ++ l) ++ Y) 0 2).toNat = l.length := by
    unfold numTo
    rw [List.drop_zero, List.append_assoc, List.take_left' hbl, num_mod7 2 (by omega), BitVec.toNat_ofNat, Nat.mod_eq_of_lt (a := l.length) (by omega), Nat.mod_eq_of_lt (by omega)]
  have hE : cutE ((be 2 (BitVec.ofNat 64 l.length) ++ l) ++ Y) 2 = 0 := by
    unfold cutE
    have e : ((2 : Int)).toNat = 2 := rfl
    rw [if_neg (by decide), e, hnum, List.length_append, List.length_append, hbl, if_neg (by omega), if_neg (by omega), if_neg (by omega)]
  have hN : cutN ((be 2 (BitVec.ofNat 64 l.length) ++ l) ++ Y) 2 = 2 + l.length := by
    unfold cutN
    have e : ((2 : Int)).toNat = 2 := rfl
    rw [if_pos hE, e, hnum]
  unfold rdBytes
  have e : ((2 : Int)).toNat = 2 := rfl
  rw [if_pos rfl, if_pos hE, hN, e]
  have e1 : ((be 2 (BitVec.ofNat 64 l.length) ++ l) ++ Y).drop (2 + l.length) = Y := List.drop_left' (by rw [List.length_append, hbl])
  have e2 : (((be 2 (BitVec.ofNat 64 l.length) ++ l) ++ Y).drop 2).take (2 + l.length - 2) = l := by
    rw [List.append_assoc, List.drop_left' hbl, List.take_left' (by omega)]
  rw [e1, e2]
/-- the bytes of a piece are that piece -/
theorem piece_back {id num cnt : Int} {s : BitVec 32} {d : List (BitVec 8)} (hid : idB id = true) (hc : cnt ≤ 256) (hn0 : 0 ≤ num) (hn : num < cnt) (hd : d.length ≤ 4096) : dcE (pcB id num cnt s d) = 0 ∧ dcR (pcB id num cnt s d) = (id, num, cnt, (s.toNat : Int), d) := by
  have hid' : 1 ≤ id ∧ id ≤ 1152921504606846976 := by unfold idB at hid; simpa using hid
  have hs := s.isLt
  obtain ⟨H, hH⟩ : ∃ H, H = pcH id num cnt s d := ⟨_, rfl⟩
  have hs2 := (Crc.sum H).isLt
  have hHl : H.length = 18 + d.length := by rw [hH]; exact pcH_len _ _ _ _ _
  have eB : pcB id num cnt s d = be 8 (BitVec.ofInt 64 id) ++ (be 2 (BitVec.ofInt 64 num) ++ (be 2 (BitVec.ofInt 64 cnt) ++ (be 4 (BitVec.ofInt 64 (s.toNat : Int)) ++ ((be 2 (BitVec.ofNat 64 d.length) ++ d) ++ (be 4 (BitVec.ofInt 64 ((Crc.sum H).toNat : Int)) ++ []))))) := by
    unfold pcB
    rw [← hH]
    conv => lhs; rw [hH]
    unfold pcH
    simp [hH, pcH]
  have eT : (pcB id num cnt s d).take ((pcB id num cnt s d).length - 4) = H := by
    have : pcB id num cnt s d = H ++ be 4 (BitVec.ofInt 64 ((Crc.sum H).toNat : Int)) := by unfold pcB; rw [← hH]
    rw [pcB_len, this]
    exact List.take_left' (by omega)
  generalize hX : pcB id num cnt s d = X at *
  have g1 : dc1 X = (be 2 (BitVec.ofInt 64 num) ++ (be 2 (BitVec.ofInt 64 cnt) ++ (be 4 (BitVec.ofInt 64 (s.toNat : Int)) ++ ((be 2 (BitVec.ofNat 64 d.length) ++ d) ++ (be 4 (BitVec.ofInt 64 ((Crc.sum H).toNat : Int)) ++ [])))), 0, id) := by unfold dc1; rw [eB]; exact rd_num7 8 id _ (by omega) (by omega) (by simp only [Nat.reduceMul, Int.reducePow]; omega) (by omega)
  have g2 : dc2 X = (be 2 (BitVec.ofInt 64 cnt) ++ (be 4 (BitVec.ofInt 64 (s.toNat : Int)) ++ ((be 2 (BitVec.ofNat 64 d.length) ++ d) ++ (be 4 (BitVec.ofInt 64 ((Crc.sum H).toNat : Int)) ++ []))), 0, num) := by unfold dc2; rw [g1]; exact rd_num7 2 num _ (by omega) (by omega) (by simp only [Nat.reduceMul, Int.reducePow]; omega) (by omega)
  have g3 : dc3 X = (be 4 (BitVec.ofInt 64 (s.toNat : Int)) ++ ((be 2 (BitVec.ofNat 64 d.length) ++ d) ++ (be 4 (BitVec.ofInt 64 ((Crc.sum H).toNat : Int)) ++ [])), 0, cnt) := by unfold dc3; rw [g2]; exact rd_num7 2 cnt _ (by omega) (by omega) (by simp only [Nat.reduceMul, Int.reducePow]; omega) (by omega)
  have g4 : dc4 X = ((be 2 (BitVec.ofNat 64 d.length) ++ d) ++ (be 4 (BitVec.ofInt 64 ((Crc.sum H).toNat : Int)) ++ []), 0, (s.toNat : Int)) := by unfold dc4; rw [g3]; exact rd_num7 4 _ _ (by omega) (by omega) (by simp only [Nat.reduceMul, Int.reducePow]; omega) (by omega)
  have g5 : dc5 X = (be 4 (BitVec.ofInt 64 ((Crc.sum H).toNat : Int)) ++ [], 0, d) := by unfold dc5; rw [g4]; exact rd_bytes7 d _ hd
  have g6 : dc6 X = ([], 0, ((Crc.sum H).toNat : Int)) := by unfold dc6; rw [g5]; exact rd_num7 4 _ _ (by omega) (by omega) (by simp only [Nat.reduceMul, Int.reducePow]; omega) (by omega)
  have g7 : dc7 X = 0 := by unfold dc7; rw [g6]; rfl
  have hcan : canC id num cnt d.length = true := by unfold canC; rw [hid, decide_eq_true hc, decide_eq_true hn, decide_eq_true hd]; rfl
  have gE : dcE X = 0 := by unfold dcE; rw [if_pos g7, g6, eT, if_pos rfl, g1, g2, g3, g5, if_pos hcan]
  refine ⟨gE, ?_⟩
  unfold dcR
  rw [if_pos gE, g1, g2, g3, g4, g5]
end Go.Proofs.Ytgonglbgejaffaa
