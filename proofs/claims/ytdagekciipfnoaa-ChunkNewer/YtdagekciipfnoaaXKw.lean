/- A writer, and blocks that stay; numbers of two, four and eight bytes. (As in Dd27, for texts that have no dedup.) -/
import Derived.Test.YtdagekciipfnoaaXFieldX1
import Derived.Test.YtdagekciipfnoaaXWo5
import Derived.Test.YtdagekciipfnoaaXMp
namespace Go.Proofs.Ytdagekciipfnoaa
open Go.RowKit
set_option linter.unusedVariables false
set_option maxRecDepth 4000

theorem wrAt_below {w w' : World} {base g T : Nat} {v : Value} {L : List (BitVec 8)} {E : Int} (h : WrAt w base g T v L E) (ht : Turned (Mine g v) w w') : Below base w w' :=
  ht.below base h.base_w (fun k hk => by
    rcases hk with rfl | hk
    · exact h.base_g
    · obtain ⟨l, ho, -⟩ := h.own; exact (World.ownsRow.lt ho k hk).1)
/-- a writer, and blocks that stay as they are -/
structure KW (w W : World) (g : Nat) (v : Value) (L : List (BitVec 8)) (bs : List (Nat × Nat × List Value)) : Prop where
  wr : WrAt W w.heap.size g 97 v L 0
  bl : Below w.heap.size w W
  bx : ∀ b ∈ bs, Blk W b.1 b.2.1 b.2.2
  ne : ∀ b ∈ bs, b.1 ≠ g ∧ ∀ j, v.ownBlock = some j → j ≠ b.1
theorem KW.step {w W W' : World} {g : Nat} {v v' : Value} {L L' : List (BitVec 8)} {bs : List (Nat × Nat × List Value)} (h : KW w W g v L bs) (hw : WrAt W' w.heap.size g 97 v' L' 0) (hn : Newer W v v') (ht : Turned (Mine g v) W W') : KW w W' g v' L' bs := by
  refine ⟨hw, h.bl.trans (wrAt_below h.wr ht), fun b hb => ?_, fun b hb => ⟨(h.ne b hb).1, fun j hj => ?_⟩⟩
  · refine (h.bx b hb).turned ht ?_
    rintro (e | e)
    · exact (h.ne b hb).1 e
    · exact (h.ne b hb).2 _ e rfl
  · rcases hn j hj with e | e
    · exact (h.ne b hb).2 j e
    · have := (h.bx b hb).lt; omega
theorem KW.later {w W W' : World} {g : Nat} {v : Value} {L : List (BitVec 8)} {bs : List (Nat × Nat × List Value)} (h : KW w W g v L bs) (hb : Below W.heap.size W W') : KW w W' g v L bs :=
  ⟨h.wr.stays (turned_below hb) (fun e => e) (fun _ _ e => e), below_then h.bl hb, fun b hbm => (h.bx b hbm).laterB hb, h.ne⟩
theorem KW.less {w W : World} {g : Nat} {v : Value} {L : List (BitVec 8)} {bs bs' : List (Nat × Nat × List Value)} (h : KW w W g v L bs) (hs : ∀ b ∈ bs', b ∈ bs) : KW w W g v L bs' :=
  ⟨h.wr, h.bl, fun b hb => h.bx b (hs b hb), fun b hb => h.ne b (hs b hb)⟩
theorem KW.own {w W : World} {g : Nat} {v : Value} {L : List (BitVec 8)} {bs : List (Nat × Nat × List Value)} (h : KW w W g v L bs) : ∀ j, v.ownBlock = some j → w.heap.size ≤ j ∧ j < W.heap.size := fun j hj => by obtain ⟨_, ho, -⟩ := h.wr.own; exact World.ownsRow.lt ho j hj
/-- a block more -/
theorem KW.new {w W : World} {g : Nat} {v : Value} {L : List (BitVec 8)} {bs : List (Nat × Nat × List Value)} (h : KW w W g v L bs) (T : Nat) (xs : List Value) : KW w (W.alloc (.cells xs.toArray T)) g v L ((W.heap.size, T, xs) :: bs) := by
  have hb : Below W.heap.size W (W.alloc (.cells xs.toArray T)) := (Below.refl _ _).alloc (Nat.le_refl _) _
  have h1 := h.later hb
  have hg := h.wr.blk.lt
  refine ⟨h1.wr, h1.bl, fun b hbm => ?_, fun b hbm => ?_⟩
  · rcases List.mem_cons.1 hbm with rfl | hbm
    · exact Blk.new' W T xs
    · exact h1.bx b hbm
  · rcases List.mem_cons.1 hbm with rfl | hbm
    · exact ⟨by simp only; omega, fun j hj e => by have := (h.own j hj).2; simp only at e; omega⟩
    · exact h1.ne b hbm
theorem wrNum_8 (L : List (BitVec 8)) (n : Int) : wrNum L 0 8 n = (L ++ be 8 (BitVec.ofInt 64 n), 0) := by
  unfold wrNum
  have : wnE 8 n = 0 := by unfold wnE widthB; simp
  rw [if_pos rfl, if_pos this]
  rfl
theorem wrNum_2 (L : List (BitVec 8)) (n : Int) (h : 0 ≤ n ∧ n ≤ 65535) : wrNum L 0 2 n = (L ++ be 2 (BitVec.ofInt 64 n), 0) := by
  unfold wrNum
  have : wnE 2 n = 0 := by unfold wnE widthB; simp; omega
  rw [if_pos rfl, if_pos this]
  rfl
theorem wrNum_4 (L : List (BitVec 8)) (n : Int) (h : 0 ≤ n ∧ n ≤ 4294967295) : wrNum L 0 4 n = (L ++ be 4 (BitVec.ofInt 64 n), 0) := by
  unfold wrNum
  have : wnE 4 n = 0 := by unfold wnE widthB; simp; omega
  rw [if_pos rfl, if_pos this]
  rfl
theorem addE_2m (n : Nat) (h : n ≤ 65535) : addE 2 n = 0 := by
  unfold addE
  rw [if_neg (by decide), if_neg]
  rintro (h1 | h1)
  · omega
  · have h2 : fitsB 2 (BitVec.ofNat 64 n) = true := by
      unfold fitsB
      rw [decide_eq_true_eq, BitVec.toNat_ofNat, Nat.mod_eq_of_lt (by omega)]
      exact Nat.div_eq_of_lt (by omega)
    have h3 : fitsB 2 (BitVec.ofNat 64 n) = false := h1
    rw [h2] at h3
    cases h3
theorem wrBytes_2m {l : List (BitVec 8)} (h : l.length ≤ 65535) (L : List (BitVec 8)) : wrBytes L 0 2 l = (L ++ (be 2 (BitVec.ofNat 64 l.length) ++ l), 0) := by
  unfold wrBytes
  rw [if_pos rfl, if_pos (addE_2m l.length h)]
  rfl
end Go.Proofs.Ytdagekciipfnoaa

/- A piece as bytes. -/
namespace Go.Proofs.Ytdagekciipfnoaa
open Go.RowKit
set_option linter.unusedVariables false
set_option linter.unusedSimpArgs false
set_option maxRecDepth 4000

/-- what stands ahead of a piece's sum -/
def pcH (id num cnt : Int) (s : BitVec 32) (d : List (BitVec 8)) : List (BitVec 8) :=
  be 8 (BitVec.ofInt 64 id) ++ be 2 (BitVec.ofInt 64 num) ++ be 2 (BitVec.ofInt 64 cnt) ++ be 4 (BitVec.ofInt 64 (s.toNat : Int)) ++ (be 2 (BitVec.ofNat 64 d.length) ++ d)
def pcB (id num cnt : Int) (s : BitVec 32) (d : List (BitVec 8)) : List (BitVec 8) := pcH id num cnt s d ++ be 4 (BitVec.ofInt 64 ((Crc.sum (pcH id num cnt s d)).toNat : Int))
theorem pcH_len (id num cnt : Int) (s : BitVec 32) (d : List (BitVec 8)) : (pcH id num cnt s d).length = 18 + d.length := by
  unfold pcH
  simp only [List.length_append, be_length _ _ (show 8 ≤ 8 by omega), be_length _ _ (show 2 ≤ 8 by omega), be_length _ _ (show 4 ≤ 8 by omega)]
  omega
theorem pcB_len (id num cnt : Int) (s : BitVec 32) (d : List (BitVec 8)) : (pcB id num cnt s d).length = 22 + d.length := by
  unfold pcB
  rw [List.length_append, pcH_len, be_length _ _ (by omega)]
  omega
set_option maxHeartbeats 8000000 in
theorem encode_any (id num cnt : Int) (s : BitVec 32) (x : Option Addr) (cp : Nat) (d : List (BitVec 8)) (w : World) (hnum : 0 ≤ num ∧ num ≤ 65535) (hcnt : 0 ≤ cnt ∧ cnt ≤ 65535) (hd : d.length ≤ 4096) (hdc : d.length ≤ cp) (hdn : x = none → cp = 0) (hdr : Row w x d) :
    Calls Try.prog 20 #[.agg #[.int .i64 id, .int .i64 num, .int .i64 cnt, .int .u32 (s.toNat : Int), .slice x d.length cp]] w fun e w' => ∃ z, e = .returned z ∧ Own w' w.heap.size z (pcB id num cnt s d) ∧ Below w.heap.size w w' := by
  have b1 : Below w.heap.size w (w.alloc (.cells #[.int .i64 id, .int .i64 num, .int .i64 cnt, .int .u32 (s.toNat : Int), .slice x d.length cp] 49)) := (Below.refl _ _).alloc (Nat.le_refl _) _
  have A1 := Blk.new' w 49 [.int .i64 id, .int .i64 num, .int .i64 cnt, .int .u32 (s.toNat : Int), .slice x d.length cp]
  have HN : Hid _ := NewWriter_any w.heap.size (w.alloc (.cells #[.int .i64 id, .int .i64 num, .int .i64 cnt, .int .u32 (s.toNat : Int), .slice x d.length cp] 49)) b1.size
  have H1 : Hid _ := And.intro b1 A1
  have HD : Hid _ := And.intro hdr trivial
  have hs := s.isLt
  clear b1 A1 hdr
  go_enter Try.func20, Try.ntmps20
  go_wp2_with fail
  have hz1 : (w.alloc (.cells #[.int .i64 id, .int .i64 num, .int .i64 cnt, .int .u32 (s.toNat : Int), .slice x d.length cp] 49)).heap.size = w.heap.size + 1 := by simp
  generalize w.alloc (.cells #[.int .i64 id, .int .i64 num, .int .i64 cnt, .int .u32 (s.toNat : Int), .slice x d.length cp] 49) = w1 at *
  refine (Calls.mono HN.out) ?_
  rintro e w2 ⟨g, rfl, hg, W2, b2⟩
  have K0 : KW w w2 g (.slice none 0 0) [] [(w.heap.size, 49, [.int .i64 id, .int .i64 num, .int .i64 cnt, .int .u32 (s.toNat : Int), .slice x d.length cp])] := ⟨W2, below_then H1.out.1 b2, (fun b hb => by rw [List.mem_singleton.1 hb]; exact H1.out.2.laterB b2), (fun b hb => by rw [List.mem_singleton.1 hb]; exact ⟨by simp only; omega, fun j hj => by cases hj⟩)⟩
  have H2 : Hid _ := And.intro K0 trivial
  clear K0 W2 b2 HN H1 hz1
  have y := blk_at (H2.out.1.bx _ (List.mem_cons_self ..)) 0
  simp only [List.getElem?_cons_zero, List.getElem?_cons_succ] at y
  have N := wNum_any w.heap.size g _ _ 0 8 id w2 H2.out.1.wr (by simp only [List.length_append, List.length_nil, be_length _ _ (show 8 ≤ 8 by omega), be_length _ _ (show 2 ≤ 8 by omega), be_length _ _ (show 4 ≤ 8 by omega)]; omega)
  rw [wrNum_8] at N
  have HN : Hid _ := N
  clear N
  go_wp2_with fail
  clear y
  refine (Calls.mono HN.out) ?_
  rintro e w3 ⟨rfl, v3, W, nw, t⟩
  have H3 : Hid _ := And.intro (H2.out.1.step W nw t) trivial
  clear HN W nw t H2
  have y := blk_at (H3.out.1.bx _ (List.mem_cons_self ..)) 1
  simp only [List.getElem?_cons_zero, List.getElem?_cons_succ] at y
  have N := wNum_any w.heap.size g _ _ 0 2 num w3 H3.out.1.wr (by simp only [List.length_append, List.length_nil, be_length _ _ (show 8 ≤ 8 by omega), be_length _ _ (show 2 ≤ 8 by omega), be_length _ _ (show 4 ≤ 8 by omega)]; omega)
  rw [wrNum_2 _ _ hnum] at N
  have HN : Hid _ := N
  clear N
  go_wp2_with fail
  clear y
  refine (Calls.mono HN.out) ?_
  rintro e w4 ⟨rfl, v4, W, nw, t⟩
  have H4 : Hid _ := And.intro (H3.out.1.step W nw t) trivial
  clear HN W nw t H3
  have y := blk_at (H4.out.1.bx _ (List.mem_cons_self ..)) 2
  simp only [List.getElem?_cons_zero, List.getElem?_cons_succ] at y
  have N := wNum_any w.heap.size g _ _ 0 2 cnt w4 H4.out.1.wr (by simp only [List.length_append, List.length_nil, be_length _ _ (show 8 ≤ 8 by omega), be_length _ _ (show 2 ≤ 8 by omega), be_length _ _ (show 4 ≤ 8 by omega)]; omega)
  rw [wrNum_2 _ _ hcnt] at N
  have HN : Hid _ := N
  clear N
  go_wp2_with fail
  clear y
  refine (Calls.mono HN.out) ?_
  rintro e w5 ⟨rfl, v5, W, nw, t⟩
  have H5 : Hid _ := And.intro (H4.out.1.step W nw t) trivial
  clear HN W nw t H4
  have y := blk_at (H5.out.1.bx _ (List.mem_cons_self ..)) 3
  simp only [List.getElem?_cons_zero, List.getElem?_cons_succ] at y
  have N := wNum_any w.heap.size g _ _ 0 4 (s.toNat : Int) w5 H5.out.1.wr (by simp only [List.length_append, List.length_nil, be_length _ _ (show 8 ≤ 8 by omega), be_length _ _ (show 2 ≤ 8 by omega), be_length _ _ (show 4 ≤ 8 by omega)]; omega)
  rw [wrNum_4 _ _ ⟨by omega, by omega⟩] at N
  have HN : Hid _ := N
  clear N
  go_wp2_with fail
  clear y
  refine (Calls.mono HN.out) ?_
  rintro e w6 ⟨rfl, v6, W, nw, t⟩
  have H6 : Hid _ := And.intro (H5.out.1.step W nw t) trivial
  clear HN W nw t H5
  have y := blk_at (H6.out.1.bx _ (List.mem_cons_self ..)) 4
  simp only [List.getElem?_cons_zero, List.getElem?_cons_succ] at y
  have N := wBytes_any w.heap.size g v6 _ 0 2 x d.length cp d w6 H6.out.1.wr (by simp only [List.length_append, List.length_nil, be_length _ _ (show 8 ≤ 8 by omega), be_length _ _ (show 2 ≤ 8 by omega), be_length _ _ (show 4 ≤ 8 by omega)]; omega) rfl hdc (HD.out.1.later H6.out.1.bl) hdn (by omega) (fun h0 y hy e => by
    have h1 := (H6.out.1.own _ e).1
    rcases HD.out.1 with q | ⟨bb, off, rfl, hc⟩
    · exact h0 q
    · cases hy
      have := World.block_lt_of_cell? w ⟨bb, off + 0, none⟩ (hc 0 (by cases d; exact absurd rfl h0; simp))
      simp only at this h1
      omega)
  rw [wrBytes_2m (by omega)] at N
  have HN : Hid _ := N
  clear N
  go_wp2_with fail
  clear y
  refine (Calls.mono HN.out) ?_
  rintro e w7 ⟨rfl, v7, W, nw, t⟩
  have K7 := H6.out.1.step W nw t
  rw [show [] ++ be 8 (BitVec.ofInt 64 id) ++ be 2 (BitVec.ofInt 64 num) ++ be 2 (BitVec.ofInt 64 cnt) ++ be 4 (BitVec.ofInt 64 (s.toNat : Int)) ++ (be 2 (BitVec.ofNat 64 d.length) ++ d) = pcH id num cnt s d from rfl] at K7
  have hL : (pcH id num cnt s d).length ≤ 5000 := by rw [pcH_len]; omega
  have HU : Hid (pcB id num cnt s d = pcH id num cnt s d ++ be 4 (BitVec.ofInt 64 ((Crc.sum (pcH id num cnt s d)).toNat : Int))) := rfl
  generalize pcH id num cnt s d = L at *
  have NE : Hid _ := wEnd_any w.heap.size g v7 L 0 w7 K7.wr (by omega)
  have H7 : Hid _ := And.intro K7 trivial
  clear HN W nw t H6 K7
  go_wp2_with fail
  refine (Calls.mono NE.out) ?_
  rintro e w8 ⟨z, rfl, o8, b8⟩
  rw [show ∀ L, wrEnd L 0 = L from fun L => if_pos rfl] at o8
  obtain ⟨za, zc, rfl, hz1, hz2, hzr, hz3, -⟩ := o8.open
  have K8 := H7.out.1.later b8
  have NS : Hid _ := sum_any za L.length zc L w8 rfl (by omega) hzr
  have hs2 := (Crc.sum L).isLt
  have N := wNum_any w.heap.size g v7 _ 0 4 ((Crc.sum L).toNat : Int) w8 K8.wr (by omega)
  rw [wrNum_4 _ _ ⟨by omega, by omega⟩] at N
  have HN : Hid _ := N
  have H8 : Hid _ := And.intro K8 trivial
  clear N NE o8 b8 K8 H7 hz2
  go_wp2_with fail
  refine (Calls.mono NS.out) ?_
  rintro e _ ⟨rfl, rfl⟩
  clear NS
  generalize hq : ((Crc.sum L).toNat : Int) = Q at *
  have hQ : IntKind.i64.wrap Q = Q := by rw [IntKind.wrap_i64]; omega
  go_wp2_with fail
  refine (Calls.mono HN.out) ?_
  rintro e w9 ⟨rfl, v9, W, nw, t⟩
  have K9 := H8.out.1.step W nw t
  have NE : Hid _ := wEnd_any w.heap.size g v9 _ 0 w9 K9.wr (by rw [List.length_append, be_length _ _ (by omega)]; omega)
  have H9 : Hid _ := K9.bl
  clear HN W nw t H8 K9
  go_wp2_with fail
  refine (Calls.mono NE.out) ?_
  rintro e w10 ⟨z, rfl, o10, b10⟩
  rw [show ∀ L, wrEnd L 0 = L from fun L => if_pos rfl] at o10
  obtain ⟨za2, zn2, zc2, rfl⟩ := own_slice o10
  have F : Hid _ := And.intro (o10.lower H9.out.size) (below_then H9.out b10)
  clear NE o10 b10 H9
  go_wp2
  go_ret
  rw [HU.out]
  exact ⟨_, rfl, F.out.1, F.out.2⟩
end Go.Proofs.Ytdagekciipfnoaa
