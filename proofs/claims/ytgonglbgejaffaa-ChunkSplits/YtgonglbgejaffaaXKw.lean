/- A writer, and blocks that stay; numbers of two, four and eight bytes. (As in Dd27, for texts that have no dedup.) -/
import Derived.Test.YtgonglbgejaffaaXFieldX1
import Derived.Test.YtgonglbgejaffaaXWo5
import Derived.Test.YtgonglbgejaffaaXMp
namespace Go.Proofs.Ytgonglbgejaffaa
open Go.RowKit
set_option linter.unusedVariables false
set_option maxRecDepth 4000

theorem wrAt_below {w w' : World} {base g T : Nat} {v : Value} {L : List (BitVec 8)} {E : Int} (h : WrAt w base g T v L E) (ht : Turned (Mine g v) w w') : Below base w w' :=
  ht.below base h.base_w (fun k hk => by
    rcases hk with rfl | hk
    · exact h.base_g
    · obtain ⟨l, ho, -⟩ := h.own; exact (World.ownsRow.lt ho k hk).1)
/-- a writer, and blocks that stay as they are -/
structure KW (w W : World) (g : Nat) (v : Value) (L : List (BitVec 8)) (bs : List (Nat × Nat × List Value)) : Prop where
  wr : WrAt W w.heap.size g 116 v L 0
  bl : Below w.heap.size w W
  bx : ∀ b ∈ bs, Blk W b.1 b.2.1 b.2.2
  ne : ∀ b ∈ bs, b.1 ≠ g ∧ ∀ j, v.ownBlock = some j → j ≠ b.1
theorem KW.step {w W W' : World} {g : Nat} {v v' : Value} {L L' : List (BitVec 8)} {bs : List (Nat × Nat × List Value)} (h : KW w W g v L bs) (hw : WrAt W' w.heap.size g 116 v' L' 0) (hn : Newer W v v') (ht : Turned (Mine g v) W W') : KW w W' g v' L' bs := by
  refine ⟨hw, h.bl.trans (wrAt_below h.wr ht), fun b hb => ?_, fun b hb => ⟨(h.ne b hb).1, fun j hj => ?_⟩⟩
  · refine (h.bx b hb).turned ht ?_
    rintro (e | e)
    · exact (h.ne b hb).1 e
    · exact (h.ne b hb).2 _ e rfl
  · rcases hn j hj with e | e
    · exact (h.ne b hb).2 j e
    · have := (h.bx b hb).lt; omega
theorem KW.later {w W W' : World} {g : Nat} {v : Value} {L : List (BitVec 8)} {bs : List (Nat × Nat × List Value)} (h : KW w W g v L bs) (hb : Below W.heap.size W W') : KW w W' g v L bs :=
  ⟨h.wr.stays (turned_below hb) (fun e => e) (fun _ _ e => e), below_then h.bl hb, fun b hbm => (h.bx b hbm).laterB hb, h.ne⟩
theorem KW.less {w W : World} {g : Nat} {v : Value} {L : List (BitVec 8)} {bs bs' : List (Nat × Nat × List Value)} (h : KW w W g v L bs) (hs : ∀ b ∈ bs', b ∈ bs) : KW w W g v L bs' :=
  ⟨h.wr, h.bl, fun b hb => h.bx b (hs b hb), fun b hb => h.ne b (hs b hb)⟩
theorem KW.own {w W : World} {g : Nat} {v : Value} {L : List (BitVec 8)} {bs : List (Nat × Nat × List Value)} (h : KW w W g v L bs) : ∀ j, v.ownBlock = some j → w.heap.size ≤ j ∧ j < W.heap.size := fun j hj => by obtain ⟨_, ho, -⟩ := h.wr.own; exact World.ownsRow.lt ho j hj
/-- a block more -/
theorem KW.new {w W : World} {g : Nat} {v : Value} {L : List (BitVec 8)} {bs : List (Nat × Nat × List Value)} (h : KW w W g v L bs) (T : Nat) (xs : List Value) : KW w (W.alloc (.cells xs.toArray T)) g v L ((W.heap.size, T, xs) :: bs) := by
  have hb : Below W.heap.size W (W.alloc (.cells xs.toArray T)) := (Below.refl _ _).alloc (Nat.le_refl _) _
  have h1 := h.later hb
  have hg := h.wr.blk.lt
  refine ⟨h1.wr, h1.bl, fun b hbm => ?_, fun b hbm => ?_⟩
  · rcases List.mem_cons.1 hbm with rfl | hbm
    · exact Blk.new' W T xs
    · exact h1.bx b hbm
  · rcases List.mem_cons.1 hbm with rfl | hbm
    · exact ⟨by simp only; omega, fun j hj e => by have := (h.own j hj).2; simp only at e; omega⟩
    · exact h1.ne b hbm
theorem wrNum_8 (L : List (BitVec 8)) (n : Int) : wrNum L 0 8 n = (L ++ be 8 (BitVec.ofInt 64 n), 0) := by
  unfold wrNum
  have : wnE 8 n = 0 := by unfold wnE widthB; simp
  rw [if_pos rfl, if_pos this]
  rfl
theorem wrNum_2 (L : List (BitVec 8)) (n : Int) (h : 0 ≤ n ∧ n ≤ 65535) : wrNum L 0 2 n = (L ++ be 2 (BitVec.ofInt 64 n), 0) := by
  unfold wrNum
  have : wnE 2 n = 0 := by unfold wnE widthB; simp; omega
  rw [if_pos rfl, if_pos this]
  rfl
theorem wrNum_4 (L : List (BitVec 8)) (n : Int) (h : 0 ≤ n ∧ n ≤ 4294967295) : wrNum L 0 4 n = (L ++ be 4 (BitVec.ofInt 64 n), 0) := by
  unfold wrNum
  have : wnE 4 n = 0 := by unfold wnE widthB; simp; omega
  rw [if_pos rfl, if_pos this]
  rfl
theorem addE_2m (n : Nat) (h : n ≤ 65535) : addE 2 n = 0 := by
  unfold addE
  rw [if_neg (by decide), if_neg]
  rintro (h1 | h1)
  · omega
  · have h2 : fitsB 2 (BitVec.ofNat 64 n) = true := by
      unfold fitsB
      rw [decide_eq_true_eq, BitVec.toNat_ofNat, Nat.mod_eq_of_lt (by omega)]
      exact Nat.div_eq_of_lt (by omega)
    have h3 : fitsB 2 (BitVec.ofNat 64 n) = false := h1
    rw [h2] at h3
    cases h3
theorem wrBytes_2m {l : List (BitVec 8)} (h : l.length ≤ 65535) (L : List (BitVec 8)) : wrBytes L 0 2 l = (L ++ (be 2 (BitVec.ofNat 64 l.length) ++ l), 0) := by
  unfold wrBytes
  rw [if_pos rfl, if_pos (addE_2m l.length h)]
  rfl
end Go.Proofs.Ytgonglbgejaffaa

/- A piece as bytes. -/
namespace Go.Proofs.Ytgonglbgejaffaa
open Go.RowKit
set_option linter.unusedVariables false
set_option linter.unusedSimpArgs false
set_option maxRecDepth 4000

/-- what stands ahead of a piece's sum -/
def pcH (id num cnt : Int) (s : BitVec 32) (d : List (BitVec 8)) : List (BitVec 8) :=
  be 8 (BitVec.ofInt 64 id) ++ be 2 (BitVec.ofInt 64 num) ++ be 2 (BitVec.ofInt 64 cnt) ++ be 4 (BitVec.ofInt 64 (s.toNat : Int)) ++ (be 2 (BitVec.ofNat 64 d.length) ++ d)
def pcB (id num cnt : Int) (s : BitVec 32) (d : List (BitVec 8)) : List (BitVec 8) := pcH id num cnt s d ++ be 4 (BitVec.ofInt 64 ((Crc.sum (pcH id num cnt s d)).toNat : Int))
theorem pcH_len (id num cnt : Int) (s : BitVec 32) (d : List (BitVec 8)) : (pcH id num cnt s d).length = 18 + d.length := by
  unfold pcH
  simp only [List.length_append, be_length _ _ (show 8 ≤ 8 by omega), be_length _ _ (show 2 ≤ 8 by omega), be_length _ _ (show 4 ≤ 8 by omega)]
  omega
theorem pcB_len (id num cnt : Int) (s : BitVec 32) (d : List (BitVec 8)) : (pcB id num cnt s d).length = 22 + d.length := by
  unfold pcB
  rw [List.length_append, pcH_len, be_length _ _ (by omega)]
  omega
set_option maxHeartbeats 8000000 in
theorem encode_any (id num cnt : Int) (s : BitVec 32) (x : Option Addr) (cp : Nat) (d : List (BitVec 8)) (w : World) (hnum : 0 ≤ num ∧ num ≤ 65535) (hcnt : 0 ≤ cnt ∧ cnt ≤ 65535) (hd : d.length ≤ 4096) (hdc : d.length ≤ cp) (hdn : x = none → cp = 0) (hdr : Row w x d) :
    Calls Try.prog 29 #[.agg #[.int .i64 id, .int .i64 num, .int .i64 cnt, .int .u32 (s.toNat : Int), .slice x d.length cp]] w fun e w' => ∃ z, e = .returned z ∧ Own w' w.heap.size z (pcB id num cnt s d) ∧ Below w.heap.size w w' := by
  have b1 : Below w.heap.size w (w.alloc (.cells #[.int .i64 id, .int .i64 num, .int .i64 cnt, .int .u32 (s.toNat : Int), .slice x d.length cp] 56)) := (Below.refl _ _).alloc (Nat.le_refl _) _
  have A1 := Blk.new' w 56 [.int .i64 id, .int .i64 num, .int .i64 cnt, .int .u32 (s.toNat : Int), .slice x d.length cp]
  have HN : Hid _ := NewWriter_any w.heap.size (w.alloc (.cells #[.int .i64 id, .int .i64 num, .int .i64 cnt, .int .u32 (s.toNat : Int), .slice x d.length cp] 56)) b1.size
  have H1 : Hid _ := And.intro b1 A1
  have HD : Hid _ := And.intro hdr trivial
  have hs := s.isLt
  clear b1 A1 hdr
  go_enter Try.func29, Try.ntmps29
  go_wp2_with fail
  have hz1 : (w.alloc (.cells #[.int .i64 id, .int .i64 num, .int .i64 cnt, .int .u32 (s.toNat : Int), .slice x d.length cp] 56)).heap.size = w.heap.size + 1 := by simp
  generalize w.alloc (.cells #[.int .i64 id, .int .i64 num, .int .i64 cnt, .int .u32 (s.toNat : Int), .slice x d.length cp] 56) = w1 at *
  refine (Calls.mono HN.out) ?_
  rintro e w2 ⟨g, rfl, hg, W2, b2⟩
  have K0 : KW w w2 g (.slice none 0 0) [] [(w.heap.size, 56, [.int .i64 id, .int .i64 num, .int .i64 cnt, .int .u32 (s.toNat : Int), .slice x d.length cp])] := ⟨W2, below_then H1.out.1 b2, (fun b hb => by rw [List.mem_singleton.1 hb]; exact H1.out.2.laterB b2), (fun b hb => by rw [List.mem_singleton.1 hb]; exact ⟨by simp only; omega, fun j hj => by cases hj⟩)⟩
  have H2 : Hid _ := And.intro K0 trivial
  clear K0 W2 b2 HN H1 hz1
  have y := blk_at (H2.out.1.bx _ (List.mem_cons_self ..)) 0
  simp only [List.getElem?_cons_zero, List.getElem?_cons_succ] at y
  have N := wNum_any w.heap.size g _ _ 0 8 id w2 H2.out.1.wr (by simp only [List.length_append, List.length_nil, be_length _ _ (show 8 ≤ 8 by omega), be_length _ _ (show 2 ≤ 8 by omega), be_length _ _ (show 4 ≤ 8 by omega)]; omega)
  rw [wrNum_8] at N
  have HN : Hid _ := N
  clear N
  go_wp2_with fail
  clear y
  refine (Calls.mono HN.out) ?_
  rintro e w3 ⟨rfl, v3, W, nw, t⟩
  have H3 : Hid _ := And.intro (H2.out.1.step W nw t) trivial
  clear HN W nw t H2
  have y := blk_at (H3.out.1.bx _ (List.mem_cons_self ..)) 1
  simp only [List.getElem?_cons_zero, List.getElem?_cons_succ] at y
  have N := wNum_any w.heap.size g _ _ 0 2 num w3 H3.out.1.wr (by simp only [List.length_append, List.length_nil, be_length _ _ (show 8 ≤ 8 by omega), be_length _ _ (show 2 ≤ 8 by omega), be_length _ _ (show 4 ≤ 8 by omega)]; omega)
  rw [wrNum_2 _ _ hnum] at N
  have HN : Hid _ := N
  clear N
  go_wp2_with fail
  clear y
  refine (Calls.mono HN.out) ?_
  rintro e w4 ⟨rfl, v4, W, nw, t⟩
  have H4 : Hid _ := And.intro (H3.out.1.step W nw t) trivial
  clear HN W nw t H3
  have y := blk_at (H4.out.1.bx _ (List.mem_cons_self ..)) 2
  simp only [List.getElem?_cons_zero, List.getElem?_cons_succ] at y
  have N := wNum_any w.heap.size g _ _ 0 2 cnt w4 H4.out.1.wr (by simp only [List.length_append, List.length_nil, be_length _ _ (show 8 ≤ 8 by omega), be_length _ _ (show 2 ≤ 8 by omega), be_length _ _ (show 4 ≤ 8 by omega)]; omega)
  rw [wrNum_2 _ _ hcnt] at N
  have HN : Hid _ := N
  clear N
  go_wp2_with fail
  clear y
  refine (Calls.mono HN.out) ?_
  rintro e w5 ⟨rfl, v5, W, nw, t⟩
  have H5 : Hid _ := And.intro (H4.out.1.step W nw t) trivial
  clear HN W nw t H4
  have y := blk_at (H5.out.1.bx _ (List.mem_cons_self ..)) 3
  simp only [List.getElem?_cons_zero, List.getElem?_cons_succ] at y
  have N := wNum_any w.heap.size g _ _ 0 4 (s.toNat : Int) w5 H5.out.1.wr (by simp only [List.length_append, List.length_nil, be_length _ _ (show 8 ≤ 8 by omega), be_length _ _ (show 2 ≤ 8 by omega), be_length _ _ (show 4 ≤ 8 by omega)]; omega)
  rw [wrNum_4 _ _ ⟨by omega, by omega⟩] at N
  have HN : Hid _ := N
  clear N
  go_wp2_with fail
  clear y
  refine (Calls.mono HN.out) ?_
  rintro e w6 ⟨rfl, v6, W, nw, t⟩
  have H6 : Hid _ := And.intro (H5.out.1.step W nw t) trivial
  clear HN W nw t H5
  have y := blk_at (H6.out.1.bx _ (List.mem_cons_self ..)) 4
  simp only [List.getElem?_cons_zero, List.getElem?_cons_succ] at y
  have N := wBytes_any w.heap.size g v6 _ 0 2 x d.length cp d w6 H6.out.1.wr (by simp only [List.length_append, List.length_nil, be_length _ _ (show 8 ≤ 8 by omega), be_length _ _ (show 2 ≤ 8 by omega), be_length _ _ (show 4 ≤ 8 by omega)]; omega) rfl hdc (HD.out.1.later H6.out.1.bl) hdn (by omega) (fun h0 y hy e => by
    have h1 := (H6.out.1.own _ e).1
    rcases HD.out.1 with q | ⟨bb, off, rfl, hc⟩
    · exact h0 q
    · cases hy
      have := World.block_lt_of_cell? w ⟨bb, off + 0, none⟩ (hc 0 (by cases d; exact absurd rfl h0; simp))
      simp only at this h1
      omega)
  rw [wrBytes_2m (by omega)] at N
  have HN : Hid _ := N
  clear N
  go_wp2_with fail
  clear y
  refine (Calls.mono HN.out) ?_
  rintro e w7 ⟨rfl, v7, W, nw, t⟩
  have K7 := H6.out.1.step W nw t
  rw [show [] ++ be 8 (BitVec.ofInt 64 id) ++ be 2 (BitVec.ofInt 64 num) ++ be 2 (BitVec.ofInt 64 cnt) ++ be 4 (BitVec.ofInt 64 (s.toNat : Int)) ++ (be 2 (BitVec.ofNat 64 d.length) ++ d) = pcH id num cnt s d from rfl] at K7
  have hL : (pcH id num cnt s d).length ≤ 5000 := by rw [pcH_len]; omega
  have HU : Hid (pcB id num cnt s d = pcH id num cnt s d ++ be 4 (BitVec.ofInt 64 ((Crc.sum (pcH id num cnt s d)).toNat : Int))) := rfl
  generalize pcH id num cnt s d = L at *
  have NE : Hid _ := wEnd_any w.heap.size g v7 L 0 w7 K7.wr (by omega)
  have H7 : Hid _ := And.intro K7 trivial
  clear HN W nw t H6 K7
  go_wp2_with fail
  refine (Calls.mono NE.out) ?_
  rintro e w8 ⟨z, rfl, o8, b8⟩
  rw [show ∀ L, wrEnd L 0 = L from fun L => if_pos rfl] at o8
  obtain ⟨za, zc, rfl, hz1, hz2, hzr, hz3, -⟩ := o8.open
  have K8 := H7.out.1.later b8
  have NS : Hid _ := sum_any za L.length zc L w8 rfl (by omega) hzr
  have hs2 := (Crc.sum L).isLt
  have N := wNum_any w.heap.size g v7 _ 0 4 ((Crc.sum L).toNat : Int) w8 K8.wr (by omega)
  rw [wrNum_4 _ _ ⟨by omega, by omega⟩] at N
  have HN : Hid _ := N
  have H8 : Hid _ := And.intro K8 trivial
  clear N NE o8 b8 K8 H7 hz2
  go_wp2_with fail
  refine (Calls.mono NS.out) ?_
  rintro e _ ⟨rfl, rfl⟩
  clear NS
  generalize hq : ((Crc.sum L).toNat : Int) = Q at *
  have hQ : IntKind.i64.wrap Q = Q := by rw [IntKind.wrap_i64]; omega
  go_wp2_with fail
  refine (Calls.mono HN.out) ?_
  rintro e w9 ⟨rfl, v9, W, nw, t⟩
  have K9 := H8.out.1.step W nw t
  have NE : Hid _ := wEnd_any w.heap.size g v9 _ 0 w9 K9.wr (by rw [List.length_append, be_length _ _ (by omega)]; omega)
  have H9 : Hid _ := K9.bl
  clear HN W nw t H8 K9
  go_wp2_with fail
  refine (Calls.mono NE.out) ?_
  rintro e w10 ⟨z, rfl, o10, b10⟩
  rw [show ∀ L, wrEnd L 0 = L from fun L => if_pos rfl] at o10
  obtain ⟨za2, zn2, zc2, rfl⟩ := own_slice o10
  have F : Hid _ := And.intro (o10.lower H9.out.size) (below_then H9.out b10)
  clear NE o10 b10 H9
  go_wp2
  go_ret
  rw [HU.out]
  exact ⟨_, rfl, F.out.1, F.out.2⟩
end Go.Proofs.Ytgonglbgejaffaa

/- An image in pieces: Split. -/
namespace Go.Proofs.Ytgonglbgejaffaa
open Go.RowKit
set_option linter.unusedVariables false
set_option linter.unusedSimpArgs false
set_option maxRecDepth 4000

def idB (id : Int) : Bool := decide (1 ≤ id ∧ id ≤ 1152921504606846976)
theorem isId_any (id : Int) (w : World) : Calls Try.prog 26 #[.int .i64 id] w fun e w' => e = .returned (.bool (idB id)) ∧ w = w' := by
  by_cases h1 : id ≥ 1
  · by_cases h2 : id ≤ 1152921504606846976
    · have H : Hid (idB id = true) := decide_eq_true (p := 1 ≤ id ∧ id ≤ 1152921504606846976) ⟨h1, h2⟩
      go_enter Try.func26, Try.ntmps26
      go_wp2
      go_ret
      exact ⟨by rw [H.out]; rfl, rfl⟩
    · have H : Hid (idB id = false) := decide_eq_false (p := 1 ≤ id ∧ id ≤ 1152921504606846976) (by omega)
      go_enter Try.func26, Try.ntmps26
      go_wp2
      go_ret
      exact ⟨by rw [H.out]; rfl, rfl⟩
  · have H : Hid (idB id = false) := decide_eq_false (p := 1 ≤ id ∧ id ≤ 1152921504606846976) (by omega)
    go_enter Try.func26, Try.ntmps26
    go_wp2
    go_ret
    exact ⟨by rw [H.out]; rfl, rfl⟩
/-- how many pieces -/
def npc (n s : Nat) : Nat := max 1 ((n + s - 1) / s)
theorem npc_1 (n s : Nat) : 1 ≤ npc n s := Nat.le_max_left _ _
theorem npc_most (n s : Nat) (hs : 1 ≤ s) (i : Nat) (hi : i < npc n s) : i * s ≤ n := by
  unfold npc at hi
  by_cases h0 : i = 0
  · subst h0; simp
  · have h1 : i < (n + s - 1) / s := by
      rcases Nat.lt_or_ge i ((n + s - 1) / s) with q | q
      · exact q
      · rw [Nat.max_def] at hi; split at hi <;> omega
    have h2 : (i + 1) * s ≤ n + s - 1 := Nat.le_trans (Nat.mul_le_mul_right s h1) (Nat.div_mul_le_self _ _)
    rw [Nat.add_mul] at h2
    omega
theorem pieces_any (n s : Nat) (hn : n ≤ 65536) (hs : 1 ≤ s) (hs2 : s ≤ 4096) (w : World) : Calls Try.prog 27 #[.int .i64 n, .int .i64 s] w fun e w' => e = .returned (.int .i64 (npc n s)) ∧ w = w' := by
  have hd : ((n : Int) + s - 1) / s = (((n + s - 1) / s : Nat) : Int) := by
    rw [show (n : Int) + s - 1 = ((n + s - 1 : Nat) : Int) by omega]
    exact (Int.natCast_ediv _ _).symm
  have ht : Int.tdiv ((n : Int) + s - 1) s = (((n + s - 1) / s : Nat) : Int) := by
    rw [Int.tdiv_eq_ediv_of_nonneg (by omega), hd]
  have hz : ¬ ((s : Int) = 0) := by omega
  have hle : (n + s - 1) / s ≤ 70000 := Nat.le_trans (Nat.div_le_self _ _) (by omega)
  have hle2 : (((n + s - 1) / s : Nat) : Int) ≤ 70000 := by omega
  have q1 : (n : Int) ≤ 65536 := by omega
  have q2 : (s : Int) ≤ 4096 := by omega
  have q3 : (1 : Int) ≤ (s : Int) := by omega
  obtain ⟨Q, hQ⟩ : ∃ Q, Q = (n + s - 1) / s := ⟨_, rfl⟩
  rw [← hQ] at hd ht hle hle2
  have hm : Hid (npc n s = max 1 Q) := (by unfold npc; rw [← hQ] : npc n s = max 1 Q)
  by_cases h1 : 1 < Q
  · have H : Hid (npc n s = Q) := by rw [hm.out]; exact Nat.max_eq_right (by omega)
    have h1' : (1 : Int) < (Q : Int) := by omega
    clear hQ
    go_enter Try.func27, Try.ntmps27
    go_wp2
    go_ret
    exact ⟨by rw [H.out]; first | rfl | simp_all, rfl⟩
  · have H : Hid (npc n s = 1) := by rw [hm.out]; exact Nat.max_eq_left (by omega)
    have h1' : ¬ (1 : Int) < (Q : Int) := by omega
    clear hQ
    go_enter Try.func27, Try.ntmps27
    go_wp2
    go_ret
    exact ⟨by rw [H.out]; first | rfl | simp_all, rfl⟩
/-- the pieces of an image -/
def pieceI (id : Int) (b : List (BitVec 8)) (s : Nat) (i : Nat) : List (BitVec 8) := pcB id i (npc b.length s) (Crc.sum b) ((b.drop (i * s)).take s)
def splL (id : Int) (b : List (BitVec 8)) (s : Nat) (k : Nat) : List (List (BitVec 8)) := (List.range k).map (pieceI id b s)
theorem splL_succ (id : Int) (b : List (BitVec 8)) (s k : Nat) : splL id b s (k + 1) = splL id b s k ++ [pieceI id b s k] := by
  unfold splL; rw [List.range_succ, List.map_append]; rfl
/-- lists of bytes that a call made -/
structure Pcs (w : World) (base D : Nat) (vs : List Value) (ls : List (List (BitVec 8))) : Prop where
  blk : Blk w D 22 vs
  base_D : base ≤ D
  each : ∀ i (h : i < ls.length), ∃ v, vs[i]? = some v ∧ Own w base v ls[i]
theorem Pcs.later {w w' : World} {base D : Nat} {vs : List Value} {ls : List (List (BitVec 8))} (h : Pcs w base D vs ls) (hb : Below w.heap.size w w') : Pcs w' base D vs ls :=
  ⟨h.blk.laterB hb, h.base_D, fun i hi => by obtain ⟨v, e, ho⟩ := h.each i hi; exact ⟨v, e, ho.later hb⟩⟩
theorem Pcs.put {w : World} {base D : Nat} {vs : List Value} {ls : List (List (BitVec 8))} {v : Value} {l : List (BitVec 8)} (h : Pcs w base D vs ls) (hl : ls.length < vs.length) (ho : Own w base v l) : Pcs (w.setCell ⟨D, ls.length, none⟩ v) base D (vs.set ls.length v) (ls ++ [l]) := by
  have stay : ∀ {u : Value} {m : List (BitVec 8)}, Own w base u m → Own (w.setCell ⟨D, ls.length, none⟩ v) base u m := fun {u m} hu => hu.same (fun k hk => Below.heap_setCell _ _ _ _ (own_apart hu h.blk (by decide) k hk))
  refine ⟨h.blk.set ls.length v, h.base_D, fun i hi => ?_⟩
  by_cases e : i < ls.length
  · obtain ⟨u, e1, hu⟩ := h.each i e
    exact ⟨u, by rw [List.getElem?_set_ne (by omega)]; exact e1, by rw [List.getElem_append_left e]; exact stay hu⟩
  · have : i = ls.length := by simp at hi; omega
    subst this
    exact ⟨v, by rw [List.getElem?_set_self hl], by rw [List.getElem_append_right (by omega)]; simpa using stay ho⟩
theorem made_lists (u : World) (N : Nat) : Blk (u.alloc (.cells (madeCells #[.slice none 0 0] N) 22)) u.heap.size 22 (List.replicate N (.slice none 0 0)) := by
  have e : (madeCells #[Value.slice none 0 0] N) = (List.replicate N (Value.slice none 0 0)).toArray := by
    apply Array.ext
    · simp [madeCells]
    · intro i h1 h2; simp [madeCells, Nat.mod_one]
  rw [e]; exact Blk.new' u _ _
theorem info_list : (Try.prog.info? 22).map (fun i => (i.zero, i.size, i.bytes)) = some (some (.slice none 0 0), 1, 24) := by kernel_rfl
theorem make_lists (N : Nat) (hN : N ≤ 1000) (u : World) : (Instr.makeSlice 23 (.int .i64 N) (.int .i64 N)).run Try.prog u = .ok (.slice (some ⟨u.heap.size, 0, none⟩) N N) (u.alloc (.cells (madeCells #[.slice none 0 0] N) 22)) := by
  obtain ⟨i0, hi, hz0, hz1, hz2⟩ := info_parts info_list
  have h := run_make (P := Try.prog) u 23 22 i0 (.slice none 0 0) Try.underlying23 hi hz0 .i64 .i64 N N (by omega) (by omega) (by rw [hz2]; omega) (by omega)
  rw [hz1] at h
  simpa [Value.cells] using h
theorem row_piece {w : World} {b off : Nat} {l : List (BitVec 8)} (h : Row w (some ⟨b, off, none⟩) l) (i k : Nat) : Row w (some ⟨b, off + i, none⟩) ((l.drop i).take k) := by
  have h1 : Row w (some ⟨b, off + i, none⟩) (l.drop i) := h.drop i
  exact h1.takes k
def splE (id : Int) (n : Nat) (s : Int) : Int := if idB id = true ∧ 1 ≤ s ∧ s ≤ 4096 then (if n ≤ 65536 ∧ npc n s.toNat ≤ 256 then 0 else 3) else 1
set_option maxHeartbeats 8000000 in
theorem split_yes (id : Int) (a : Option Addr) (cap : Nat) (b : List (BitVec 8)) (s : Nat) (w : World) (hid : idB id = true) (hs : 1 ≤ s) (hs2 : s ≤ 4096) (hb : b.length ≤ 65536) (hn : npc b.length s ≤ 256) (hc : b.length ≤ cap) (hr : Row w a b) (hnil : a = none → cap = 0) :
    Calls Try.prog 6 #[.int .i64 id, .slice a b.length cap, .int .i64 s] w fun e w' => ∃ D vs, e = .returned (.tuple #[.slice (some ⟨D, 0, none⟩) (npc b.length s) (npc b.length s), .int .i64 0]) ∧ vs.length = npc b.length s ∧ Pcs w' w.heap.size D vs (splL id b s (npc b.length s)) ∧ Below w.heap.size w w' := by
  have HI : Hid _ := isId_any id w
  rw [hid] at HI
  have HP : Hid _ := pieces_any b.length s hb hs hs2 w
  have h1n := npc_1 b.length s
  have hmost : Hid (∀ i, i < npc b.length s → i * s ≤ b.length) := fun i hi => npc_most b.length s hs i hi
  have HL : Hid (∀ i, i < npc b.length s → pieceI id b s i = pcB id i (npc b.length s) (Crc.sum b) ((b.drop (i * s)).take s)) := fun i _ => rfl
  generalize hNn : npc b.length s = N at *
  have hmk := make_lists N (by omega)
  have HR : Hid _ := And.intro hr (And.intro hnil hNn)
  have HSu : Hid (∀ W, Below w.heap.size w W → Calls Try.prog 28 #[.slice a b.length cap] W fun e w' => e = .returned (.int .u32 ((Crc.sum b).toNat : Int)) ∧ w' = W) := fun W hW => sum_any a b.length cap b W rfl (by unfold maxLen; omega) (hr.later hW)
  have hS0 := (Crc.sum b).isLt
  have q1 : (b.length : Int) ≤ 65536 := by omega
  have q2 : (s : Int) ≤ 4096 := by omega
  have q3 : (1 : Int) ≤ (s : Int) := by omega
  have q4 : (N : Int) ≤ 256 := by omega
  have B1 := made_lists w N
  have bm : Below w.heap.size w (w.alloc (.cells (madeCells #[.slice none 0 0] N) 22)) := (Below.refl _ _).alloc (Nat.le_refl _) _
  have HB : Hid _ := And.intro B1 bm
  clear hr hnil hNn hid B1 bm
  go_enter Try.func6, Try.ntmps6
  go_wp2_with fail
  refine (Calls.mono HI.out) ?_
  rintro e _ ⟨rfl, rfl⟩
  go_wp2_with fail
  refine (Calls.mono HP.out) ?_
  rintro e _ ⟨rfl, rfl⟩
  go_wp2_with fail
  refine (Calls.mono HP.out) ?_
  rintro e _ ⟨rfl, rfl⟩
  go_wp2_with fail
  have NS : Hid _ := HSu.out _ HB.out.2
  have hwz : (w.alloc (.cells (madeCells #[.slice none 0 0] N) 22)).heap.size = w.heap.size + 1 := by simp
  generalize (w.alloc (.cells (madeCells #[.slice none 0 0] N) 22)) = w1 at *
  refine (Calls.mono NS.out) ?_
  rintro e _ ⟨rfl, rfl⟩
  rename_i w1
  clear NS HSu hmk HP HI
  have splL_len : ∀ k, (splL id b s k).length = k := fun k => by unfold splL; simp
  have K0 : Hid (Pcs w1 w.heap.size w.heap.size (List.replicate N (.slice none 0 0)) (splL id b s 0)) := ⟨HB.out.1, Nat.le_refl _, fun i hi => by rw [splL_len] at hi; omega⟩
  go_wp2_with fail
  go_loopw [42] (fun iv wr => ∃ (k : Nat) (vs : List Value), iv = .int .i64 k ∧ k ≤ N ∧ vs.length = N ∧ Pcs wr w.heap.size w.heap.size vs (splL id b s k) ∧ Below w.heap.size w wr) (fun iv _ => N - (intOf iv).toNat)
  case atStart => exact ⟨0, _, rfl, by omega, by simp, K0.out, HB.out.2⟩
  case round =>
    clear K0
    obtain ⟨k, vs, rfl, hk, hvs, hP, hB⟩ := hrel
    by_cases hlt : k < N
    · have K : Hid _ := And.intro hP (And.intro hvs hB)
      clear hP hB
      obtain ⟨A, hA0⟩ : ∃ A, A = k * s := ⟨_, rfl⟩
      obtain ⟨Z, hZ0⟩ : ∃ Z, Z = (k + 1) * s := ⟨_, rfl⟩
      have hAl : A ≤ b.length := by rw [hA0]; exact hmost.out k hlt
      have hZA : Z = A + s := by rw [hZ0, hA0, Nat.add_mul]; omega
      have eA : (k : Int) * (s : Int) = (A : Int) := by rw [hA0]; exact (Int.natCast_mul _ _).symm
      have eZ : ((k : Int) + 1) * (s : Int) = (Z : Int) := by rw [hZ0]; exact (Int.natCast_mul (k + 1) s).symm
      have q5 : (Z : Int) ≤ 70000 := by omega
      have q9 : (k : Int) < (N : Int) := by omega
      have q11 : (A : Int) ≤ 65536 := by omega
      have hds : ((b.drop A).take s).length ≤ 4096 := by rw [List.length_take]; omega
      have HA0 : Hid _ := hA0
      clear hA0 hZ0
      by_cases hz : b.length < Z
      · have hdl : ((b.drop A).take s).length = b.length - A := by rw [List.length_take, List.length_drop]; omega
        have q6 : (A : Int) ≤ (b.length : Int) := by omega
        have q7 : (b.length : Int) ≤ (cap : Int) := by omega
        have q8 : (b.length : Int) < (Z : Int) := by omega
        cases a with
        | none =>
          have hcap := HR.out.2.1 rfl
          obtain rfl : cap = 0 := hcap
          have hb0 : b = [] := List.eq_nil_of_length_eq_zero (by omega)
          have hA1 : A = 0 := by omega
          have HE : Hid (Calls Try.prog 29 #[.agg #[.int .i64 id, .int .i64 k, .int .i64 N, .int .u32 ((Crc.sum b).toNat : Int), .slice none (b.length - A) (0)]] wr fun e w' => ∃ z, e = .returned z ∧ Own w' wr.heap.size z (pcB id k N (Crc.sum b) ((b.drop A).take s)) ∧ Below wr.heap.size wr w') := by
            have := encode_any id k N (Crc.sum b) none (0) ((b.drop A).take s) wr ⟨by omega, by omega⟩ ⟨by omega, by omega⟩ (by omega) (by omega) (fun e => by omega) (.inl (by rw [hb0]; simp))
            rw [hdl] at this
            exact this
          (try clear hdl)
          (try clear hds)
          (try clear hdz)
          (try clear hb0)
          (try clear hA1)
          (try clear hrw)
          (try clear hrow)
          (try clear hcy)
          (try clear hz)
          have HZA : Hid _ := hZA
          clear hZA
          go_wp2_with fail
          refine (Calls.mono HE.out) ?_
          rintro e w3 ⟨z, rfl, o3, b3⟩
          obtain ⟨za, zn, zc, rfl⟩ := own_slice o3
          have P3 := K.out.1.later b3
          have y1 := blk_at P3.blk k
          have y2 := blk_frozen P3.blk k
          rw [List.getElem?_eq_getElem (by omega)] at y1
          have P4 := P3.put (by rw [splL_len]; omega) (o3.lower K.out.2.2.size)
          rw [splL_len] at P4
          have F : Hid _ := And.intro P4 (below_then K.out.2.2 b3)
          generalize vs[k] = u at *
          clear HE o3 b3 P3 P4
          go_wp2
          go_roundw
          case rel =>
            refine ⟨k + 1, vs.set k (.slice za zn zc), by go_num, by omega, by rw [List.length_set]; exact hvs, ?_, ?_⟩
            · have := F.out.1
              rw [splL_succ]
              rw [show pieceI id b s k = pcB id k N (Crc.sum b) ((b.drop A).take s) by rw [HL.out k hlt, HA0.out]]
              exact this
            · exact F.out.2.setCell (p := ⟨w.heap.size, k, none⟩) (Nat.le_refl _) _
          case measure => simp [intOf]; omega
        | some y =>
          by_cases hcA : cap = A
          · have hdz : (b.drop A).take s = [] := List.eq_nil_of_length_eq_zero (by omega)
            have hdl0 : ((b.drop A).take s).length = 0 := by rw [hdz]; rfl
            clear hdl
            have hdl := hdl0
            clear hdl0
            subst hcA
            have HE : Hid (Calls Try.prog 29 #[.agg #[.int .i64 id, .int .i64 k, .int .i64 N, .int .u32 ((Crc.sum b).toNat : Int), .slice (some y) 0 (0)]] wr fun e w' => ∃ z, e = .returned z ∧ Own w' wr.heap.size z (pcB id k N (Crc.sum b) ((b.drop cap).take s)) ∧ Below wr.heap.size wr w') := by
              have := encode_any id k N (Crc.sum b) (some y) (0) ((b.drop cap).take s) wr ⟨by omega, by omega⟩ ⟨by omega, by omega⟩ (by omega) (by omega) (fun e => by cases e) (.inl hdz)
              rw [hdl] at this
              exact this
            (try clear hdl)
            (try clear hds)
            (try clear hdz)
            (try clear hb0)
            (try clear hA1)
            (try clear hrw)
            (try clear hrow)
            (try clear hcy)
            (try clear hz)
            have HZA : Hid _ := hZA
            clear hZA
            go_wp2_with fail
            refine (Calls.mono HE.out) ?_
            rintro e w3 ⟨z, rfl, o3, b3⟩
            obtain ⟨za, zn, zc, rfl⟩ := own_slice o3
            have P3 := K.out.1.later b3
            have y1 := blk_at P3.blk k
            have y2 := blk_frozen P3.blk k
            rw [List.getElem?_eq_getElem (by omega)] at y1
            have P4 := P3.put (by rw [splL_len]; omega) (o3.lower K.out.2.2.size)
            rw [splL_len] at P4
            have F : Hid _ := And.intro P4 (below_then K.out.2.2 b3)
            generalize vs[k] = u at *
            clear HE o3 b3 P3 P4
            go_wp2
            go_roundw
            case rel =>
              refine ⟨k + 1, vs.set k (.slice za zn zc), by go_num, by omega, by rw [List.length_set]; exact hvs, ?_, ?_⟩
              · have := F.out.1
                rw [splL_succ]
                rw [show pieceI id b s k = pcB id k N (Crc.sum b) ((b.drop cap).take s) by rw [HL.out k hlt, HA0.out]]
                exact this
              · exact F.out.2.setCell (p := ⟨w.heap.size, k, none⟩) (Nat.le_refl _) _
            case measure => simp [intOf]; omega
          · rcases HR.out.1 with hb0 | ⟨yb, yo, hy, hcy⟩
            · have hdz : (b.drop A).take s = [] := by rw [hb0]; simp
              obtain ⟨yb, yo, ys⟩ := y
              have HE : Hid (Calls Try.prog 29 #[.agg #[.int .i64 id, .int .i64 k, .int .i64 N, .int .u32 ((Crc.sum b).toNat : Int), .slice (some ((⟨yb, yo, ys⟩ : Addr).add A)) (b.length - A) (cap - A)]] wr fun e w' => ∃ z, e = .returned z ∧ Own w' wr.heap.size z (pcB id k N (Crc.sum b) ((b.drop A).take s)) ∧ Below wr.heap.size wr w') := by
                have := encode_any id k N (Crc.sum b) (some ((⟨yb, yo, ys⟩ : Addr).add A)) (cap - A) ((b.drop A).take s) wr ⟨by omega, by omega⟩ ⟨by omega, by omega⟩ (by omega) (by omega) (fun e => by cases e) (.inl hdz)
                rw [hdl] at this
                exact this
              (try clear hdl)
              (try clear hds)
              (try clear hdz)
              (try clear hb0)
              (try clear hA1)
              (try clear hrw)
              (try clear hrow)
              (try clear hcy)
              (try clear hz)
              have HZA : Hid _ := hZA
              clear hZA
              go_wp2_with fail
              refine (Calls.mono HE.out) ?_
              rintro e w3 ⟨z, rfl, o3, b3⟩
              obtain ⟨za, zn, zc, rfl⟩ := own_slice o3
              have P3 := K.out.1.later b3
              have y1 := blk_at P3.blk k
              have y2 := blk_frozen P3.blk k
              rw [List.getElem?_eq_getElem (by omega)] at y1
              have P4 := P3.put (by rw [splL_len]; omega) (o3.lower K.out.2.2.size)
              rw [splL_len] at P4
              have F : Hid _ := And.intro P4 (below_then K.out.2.2 b3)
              generalize vs[k] = u at *
              clear HE o3 b3 P3 P4
              go_wp2
              go_roundw
              case rel =>
                refine ⟨k + 1, vs.set k (.slice za zn zc), by go_num, by omega, by rw [List.length_set]; exact hvs, ?_, ?_⟩
                · have := F.out.1
                  rw [splL_succ]
                  rw [show pieceI id b s k = pcB id k N (Crc.sum b) ((b.drop A).take s) by rw [HL.out k hlt, HA0.out]]
                  exact this
                · exact F.out.2.setCell (p := ⟨w.heap.size, k, none⟩) (Nat.le_refl _) _
              case measure => simp [intOf]; omega
            · cases hy
              have hrow : Row w (some ⟨yb, yo, none⟩) b := .inr ⟨yb, yo, rfl, hcy⟩
              have hrw : Row wr (some ⟨yb, yo + A, none⟩) ((b.drop A).take s) := (row_piece hrow A s).later K.out.2.2
              have HE : Hid (Calls Try.prog 29 #[.agg #[.int .i64 id, .int .i64 k, .int .i64 N, .int .u32 ((Crc.sum b).toNat : Int), .slice (some ⟨yb, yo + A, none⟩) (b.length - A) (cap - A)]] wr fun e w' => ∃ z, e = .returned z ∧ Own w' wr.heap.size z (pcB id k N (Crc.sum b) ((b.drop A).take s)) ∧ Below wr.heap.size wr w') := by
                have := encode_any id k N (Crc.sum b) (some ⟨yb, yo + A, none⟩) (cap - A) ((b.drop A).take s) wr ⟨by omega, by omega⟩ ⟨by omega, by omega⟩ (by omega) (by omega) (fun e => by cases e) hrw
                rw [hdl] at this
                exact this
              (try clear hdl)
              (try clear hds)
              (try clear hdz)
              (try clear hb0)
              (try clear hA1)
              (try clear hrw)
              (try clear hrow)
              (try clear hcy)
              (try clear hz)
              have HZA : Hid _ := hZA
              clear hZA
              go_wp2_with fail
              refine (Calls.mono HE.out) ?_
              rintro e w3 ⟨z, rfl, o3, b3⟩
              obtain ⟨za, zn, zc, rfl⟩ := own_slice o3
              have P3 := K.out.1.later b3
              have y1 := blk_at P3.blk k
              have y2 := blk_frozen P3.blk k
              rw [List.getElem?_eq_getElem (by omega)] at y1
              have P4 := P3.put (by rw [splL_len]; omega) (o3.lower K.out.2.2.size)
              rw [splL_len] at P4
              have F : Hid _ := And.intro P4 (below_then K.out.2.2 b3)
              generalize vs[k] = u at *
              clear HE o3 b3 P3 P4
              go_wp2
              go_roundw
              case rel =>
                refine ⟨k + 1, vs.set k (.slice za zn zc), by go_num, by omega, by rw [List.length_set]; exact hvs, ?_, ?_⟩
                · have := F.out.1
                  rw [splL_succ]
                  rw [show pieceI id b s k = pcB id k N (Crc.sum b) ((b.drop A).take s) by rw [HL.out k hlt, HA0.out]]
                  exact this
                · exact F.out.2.setCell (p := ⟨w.heap.size, k, none⟩) (Nat.le_refl _) _
              case measure => simp [intOf]; omega
      · have hdl : ((b.drop A).take s).length = Z - A := by rw [List.length_take, List.length_drop]; omega
        have q6 : (A : Int) ≤ (Z : Int) := by omega
        have q7 : (Z : Int) ≤ (cap : Int) := by omega
        have q8 : ¬ (b.length : Int) < (Z : Int) := by omega
        have hcA : ¬ cap = A := by omega
        rcases HR.out.1 with hb0 | ⟨yb, yo, rfl, hcy⟩
        · exfalso
          rw [hb0] at hz
          simp at hz
          omega
        · have hrow : Row w (some ⟨yb, yo, none⟩) b := .inr ⟨yb, yo, rfl, hcy⟩
          have hrw : Row wr (some ⟨yb, yo + A, none⟩) ((b.drop A).take s) := (row_piece hrow A s).later K.out.2.2
          have HE : Hid (Calls Try.prog 29 #[.agg #[.int .i64 id, .int .i64 k, .int .i64 N, .int .u32 ((Crc.sum b).toNat : Int), .slice (some ⟨yb, yo + A, none⟩) (Z - A) (cap - A)]] wr fun e w' => ∃ z, e = .returned z ∧ Own w' wr.heap.size z (pcB id k N (Crc.sum b) ((b.drop A).take s)) ∧ Below wr.heap.size wr w') := by
            have := encode_any id k N (Crc.sum b) (some ⟨yb, yo + A, none⟩) (cap - A) ((b.drop A).take s) wr ⟨by omega, by omega⟩ ⟨by omega, by omega⟩ (by omega) (by omega) (fun e => by cases e) hrw
            rw [hdl] at this
            exact this
          (try clear hdl)
          (try clear hds)
          (try clear hdz)
          (try clear hb0)
          (try clear hA1)
          (try clear hrw)
          (try clear hrow)
          (try clear hcy)
          (try clear hz)
          have HZA : Hid _ := hZA
          clear hZA
          go_wp2_with fail
          refine (Calls.mono HE.out) ?_
          rintro e w3 ⟨z, rfl, o3, b3⟩
          obtain ⟨za, zn, zc, rfl⟩ := own_slice o3
          have P3 := K.out.1.later b3
          have y1 := blk_at P3.blk k
          have y2 := blk_frozen P3.blk k
          rw [List.getElem?_eq_getElem (by omega)] at y1
          have P4 := P3.put (by rw [splL_len]; omega) (o3.lower K.out.2.2.size)
          rw [splL_len] at P4
          have F : Hid _ := And.intro P4 (below_then K.out.2.2 b3)
          generalize vs[k] = u at *
          clear HE o3 b3 P3 P4
          go_wp2
          go_roundw
          case rel =>
            refine ⟨k + 1, vs.set k (.slice za zn zc), by go_num, by omega, by rw [List.length_set]; exact hvs, ?_, ?_⟩
            · have := F.out.1
              rw [splL_succ]
              rw [show pieceI id b s k = pcB id k N (Crc.sum b) ((b.drop A).take s) by rw [HL.out k hlt, HA0.out]]
              exact this
            · exact F.out.2.setCell (p := ⟨w.heap.size, k, none⟩) (Nat.le_refl _) _
          case measure => simp [intOf]; omega
    · obtain rfl : k = N := by omega
      have F : Hid _ := And.intro hvs (And.intro hP hB)
      have q5 : ¬ (k : Int) < (k : Int) := by omega
      clear hP hB
      go_wp2
      go_ret2
      first | exact ⟨_, vs, rfl, F.out.1, F.out.2.1, F.out.2.2⟩ | exact ⟨_, rfl, vs, F.out.1, F.out.2.1, F.out.2.2⟩
end Go.Proofs.Ytgonglbgejaffaa
