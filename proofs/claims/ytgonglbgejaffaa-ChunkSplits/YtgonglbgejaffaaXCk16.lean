/- Pieces of an image are added; what is missing. -/
import Derived.Test.YtgonglbgejaffaaXCk13
import Derived.Deep.RegionWith
import Derived.Lib.SlBytesConst
namespace Go.Proofs.Ytgonglbgejaffaa
open Go.RowKit Go.Shelf
set_option linter.unusedVariables false
set_option linter.unusedSimpArgs false
set_option maxRecDepth 4000

theorem dn7 (B : Nat) (w : World) (n : Nat) : Below B w (w.drewN n) := ⟨rfl, rfl, rfl, Nat.le_refl _, fun _ _ => rfl⟩
theorem cell_later7 {w w' : World} {x : Addr} {v : Value} (hb : Below w.heap.size w w') (h : w.cell? x = some v) : w'.cell? x = some v := by
  have hx : x.block < w.heap.size := by
    rcases Nat.lt_or_ge x.block w.heap.size with h1 | h1
    · exact h1
    · unfold World.cell? at h
      rw [Array.getElem?_eq_none h1] at h
      simp at h
  rw [World.cell?_of_block (w := w) (hb.block _ hx)]
  exact h
set_option maxHeartbeats 1000000 in
theorem same07_yes (v u : Value) (l : List Int) (w : World) (h : NOwn w v l) (k : NOwn w u l) :
    Calls Try.prog 20 #[v, u] w fun e w' => e = .returned (.bool true) ∧ Below w.heap.size w w' := by
  obtain ⟨va, vc, rfl, hvc, hcs, hvm⟩ := h.open
  obtain ⟨ua, uc, rfl, huc, hds, -⟩ := k.open
  have HC : Hid _ := And.intro hcs hds
  have hlm : l.length ≤ maxLen := Nat.le_trans hvc hvm
  unfold maxLen at hlm
  clear h k hcs hds
  go_enter Try.func20, Try.ntmps20
  go_wp2_with fail
  go_loopw [5] (fun iv wr => ∃ (k : Nat), iv = .int .i64 k ∧ k ≤ l.length ∧ Below w.heap.size w wr) (fun iv _ => l.length - (intOf iv).toNat)
  case atStart => exact ⟨0, rfl, by omega, Below.refl _ _⟩
  case round =>
    obtain ⟨k, rfl, hk, hb⟩ := hrel
    by_cases hlt : k < l.length
    · obtain ⟨b1, rfl, -, k1⟩ := HC.out.1 k hlt
      obtain ⟨b2, rfl, -, k2⟩ := HC.out.2 k hlt
      have k1' := cell_later7 hb k1
      have k2' := cell_later7 hb k2
      have q1 : (k : Int) < l.length := by omega
      generalize l[k] = x at *
      have HB : Hid _ := hb
      clear k1 k2 hb
      go_wp2_with fail
      go_quiet (fail)
      go_wp2
      go_roundw
      case rel => exact ⟨k + 1, by go_num, by omega, HB.out.trans (dn7 _ _ _)⟩
      case measure => simp [intOf]; omega
    · obtain rfl : k = l.length := by omega
      go_wp2
      go_ret
      exact ⟨rfl, hb⟩


/-- an image that can be cut -/
structure Img (id : Int) (b : List (BitVec 8)) (s : Nat) : Prop where
  id : idB id = true
  s1 : 1 ≤ s
  s2 : s ≤ 4096
  bl : b.length ≤ 65536
  n : npc b.length s ≤ 256
theorem Img.pos {id : Int} {b : List (BitVec 8)} {s : Nat} (h : Img id b s) : 1 ≤ id := by
  have := h.id; unfold idB at this; simp at this; exact this.1
theorem chk_len {b : List (BitVec 8)} {s : Nat} (i : Nat) : (chk b s i).length ≤ s := by unfold chk; rw [List.length_take]; omega
theorem piece_len {id : Int} {b : List (BitVec 8)} {s i : Nat} : (pieceI id b s i).length = 22 + (chk b s i).length := by
  unfold pieceI chk
  exact pcB_len _ _ _ _ _
theorem piece_is {id : Int} {b : List (BitVec 8)} {s : Nat} (h : Img id b s) (i : Nat) (hi : i < npc b.length s) : dcE (pieceI id b s i) = 0 ∧ dcR (pieceI id b s i) = (id, (i : Int), ((npc b.length s : Nat) : Int), ((Crc.sum b).toNat : Int), chk b s i) := by
  have hn := h.n
  have hs2 := h.s2
  have := chk_len (b := b) (s := s) i
  exact piece_back h.id (by omega) (by omega) (by omega) (d := chk b s i) (by omega)
/-- what the reader gathers when a piece of that image comes -/
def gm (m : CR) (id : Int) (b : List (BitVec 8)) (s : Nat) : CR := if m.id < id then begM m id ((Crc.sum b).toNat : Int) (npc b.length s) else m
def addP (m : CR) (id : Int) (b : List (BitVec 8)) (s i : Nat) : CR := addM (setPc (gm m id b s) i (chk b s i))
theorem addP_GI {m : CR} {id : Int} {b : List (BitVec 8)} {s : Nat} (h : m.id < id ∨ GI m id b s) (i : Nat) : GI (addP m id b s i) id b s := by
  unfold addP gm
  by_cases hl : m.id < id
  · rw [if_pos hl]; exact ((GI.begin m id b s).set i).add
  · rw [if_neg hl]; exact ((h.resolve_left hl).set i).add
theorem addP_ad {m : CR} {id : Int} {b : List (BitVec 8)} {s i : Nat} : (addP m id b s i).ad = m.ad + 1 := by
  unfold addP addM
  simp only [setPc_ad]
  unfold gm; split <;> rfl
theorem addPiece_any (p : CPl) (m : CR) (id : Int) (b : List (BitVec 8)) (s i base : Nat) (v : Value) (w : World) (hI : Img id b s) (hi : i < npc b.length s) (hv : Own w base v (pieceI id b s i)) (h : (crOb p m).Ok w) (hm : m.id < id ∨ GI m id b s) (had : m.ad ≤ 1000000000) :
    Calls Try.prog 16 #[.pointer (some ⟨p.g, 0, none⟩), v] w fun e w' => e = .returned (.int .i64 0) ∧ ∃ p', p'.g = p.g ∧ Step w w' (crOb p m) (crOb p' (addP m id b s i)) := by
  obtain ⟨a, cap, rfl, g1, g2, g3, g4, -⟩ := hv.open
  obtain ⟨e1, e2⟩ := piece_is hI i hi
  have hs1 := hI.s1
  have hbl := hI.bl
  have hlen : (pieceI id b s i).length ≤ 140737488351232 := by rw [piece_len]; have := chk_len (b := b) (s := s) i; have := hI.s2; omega
  unfold addP gm
  by_cases hl : m.id < id
  · rw [if_pos hl]
    have hck := chk_len (b := b) (s := s) i
    have hs2 := hI.s2
    exact add_new a cap _ p m w h g1 g3 g4 hlen e1 id _ i _ (chk b s i) e2 hl hi hI.n (by omega) had
  · rw [if_neg hl]
    have hG := hm.resolve_left hl
    exact add_same a cap _ p m w h g1 g3 g4 hlen e1 id _ i _ (chk b s i) e2 hG.id hG.sum hG.len hi hI.n (fun hn => by have := hG.room hs1 i hn; omega) had
theorem addOld_any (p : CPl) (m : CR) (id : Int) (b : List (BitVec 8)) (s i base : Nat) (v : Value) (w : World) (hI : Img id b s) (hi : i < npc b.length s) (hv : Own w base v (pieceI id b s i)) (h : (crOb p m).Ok w) (hm : id < m.id) :
    Calls Try.prog 16 #[.pointer (some ⟨p.g, 0, none⟩), v] w fun e w' => e = .returned (.int .i64 5) ∧ Below w.heap.size w w' := by
  obtain ⟨a, cap, rfl, g1, g2, g3, g4, -⟩ := hv.open
  obtain ⟨e1, e2⟩ := piece_is hI i hi
  have hlen : (pieceI id b s i).length ≤ 140737488351232 := by rw [piece_len]; have := chk_len (b := b) (s := s) i; have := hI.s2; omega
  exact add_old a cap _ p m w h g1 g3 g4 hlen e1 id _ i _ (chk b s i) e2 hm
/-- what is missing, as a list -/
theorem lawmiss_any (p : CPl) (m : CR) (w : World) (h : (crOb p m).Ok w) (hne : m.ps.length ≠ 0) (hn : m.ps.length ≤ 256) :
    Calls Try.prog 21 #[.pointer (some ⟨p.g, 0, none⟩)] w fun e w' => ∃ v, e = .returned v ∧ NOwn w' v (mis (m.ps.map Option.isSome) m.ps.length) ∧ (∀ k, v.ownBlock = some k → w.heap.size ≤ k) ∧ Below w.heap.size w w' := by
  have hml := mis_len (m.ps.map Option.isSome) m.ps.length
  refine (lawmiss_gen (some ⟨p.g, 0, none⟩) (mis (m.ps.map Option.isSome) m.ps.length) w (by omega) (fun w1 w2 => Below w1.heap.size w1 w2) (fun w1 b1 => ?_) (fun w1 w2 b => ⟨b.size, fun k _ hk => b.block k hk⟩)).mono ?_
  · have hP := (h.later b1).holds
    have hG := hP.blk
    unfold CPl.tv CPl.dv at hG
    rw [if_neg hne, if_neg hne] at hG
    have hT := hP.there hne
    rw [show m.ps.map isB = (m.ps.map Option.isSome).map Value.bool by rw [List.map_map]; rfl] at hT
    have := missing_raw p.g p.t (m.ps.map Option.isSome) _ _ _ _ _ _ _ _ _ w1 (by rw [List.length_map]; exact hG) hT (by rw [List.length_map]; omega)
    rw [List.length_map] at this
    exact this
  · rintro e w' ⟨v, rfl, ho, w1, w2, b1, s1, b2, ht, hf⟩
    exact ⟨v, rfl, ho, fun k hk => Nat.le_trans (below_then b1 b2).size (hf k hk), (below_then b1 b2).trans (ht.below _ (Nat.le_trans b1.size b2.size) (fun k e => by omega))⟩
end Go.Proofs.Ytgonglbgejaffaa

/- The pieces of an image in memory, beside a reader. -/
namespace Go.Proofs.Ytgonglbgejaffaa
open Go.RowKit Go.Shelf
set_option linter.unusedVariables false
set_option linter.unusedSimpArgs false
set_option maxRecDepth 4000

structure PcsL (w : World) (D : Nat) (vs : List Value) (ls : List (List (BitVec 8))) : Prop where
  blk : Blk w D 22 vs
  len : vs.length = ls.length
  each : ∀ i (h : i < ls.length), ∃ v, vs[i]? = some v ∧ Own w 0 v ls[i]
/-- pieces that are only read -/
def pcsOb (D : Nat) (vs : List Value) (ls : List (List (BitVec 8))) : Ob := ⟨[], D :: vs.filterMap (·.ownBlock), fun w => PcsL w D vs ls⟩
theorem PcsL.mem {w : World} {D : Nat} {vs : List Value} {ls : List (List (BitVec 8))} (h : PcsL w D vs ls) {k : Nat} (hk : k ∈ D :: vs.filterMap (·.ownBlock)) : k < w.heap.size := by
  rcases List.mem_cons.1 hk with rfl | hk
  · exact h.blk.lt
  · obtain ⟨v, hv, e⟩ := List.mem_filterMap.1 hk
    obtain ⟨i, hi, rfl⟩ := List.getElem_of_mem hv
    obtain ⟨u, hu, ho⟩ := h.each i (by rw [← h.len]; exact hi)
    rw [List.getElem?_eq_getElem hi] at hu
    cases hu
    exact (World.ownsRow.lt ho k e).2
theorem pcsOb_ok {w : World} {D : Nat} {vs : List Value} {ls : List (List (BitVec 8))} (h : PcsL w D vs ls) : (pcsOb D vs ls).Ok w := by
  refine ⟨h, fun k hk => ?_, (fun k hk => by cases hk), fun w1 w2 hs h => ⟨?_, h.len, fun i hi => ?_⟩⟩
  · rcases hk with hk | hk
    · cases hk
    · exact h.mem hk
  · have := h.blk
    unfold Blk at *
    rw [hs D (.inr (by simp [pcsOb]))]; exact this
  · obtain ⟨v, hv, ho⟩ := h.each i hi
    exact ⟨v, hv, Own.same ho (fun k hk => hs k (.inr (List.mem_cons_of_mem _ (List.mem_filterMap.2 ⟨v, List.mem_of_getElem? hv, hk⟩))))⟩
theorem Pcs.ob {w : World} {base D : Nat} {vs : List Value} {ls : List (List (BitVec 8))} (h : Pcs w base D vs ls) (hl : vs.length = ls.length) : (pcsOb D vs ls).Ok w :=
  pcsOb_ok ⟨h.blk, hl, fun i hi => by obtain ⟨v, e, ho⟩ := h.each i hi; exact ⟨v, e, ho.lower (Nat.zero_le _)⟩⟩
theorem splL_at {id : Int} {b : List (BitVec 8)} {s n i : Nat} (h : i < (splL id b s n).length) : (splL id b s n)[i] = pieceI id b s i := by
  have : (splL id b s n)[i]? = some (pieceI id b s i) := by
    have hi : i < n := by unfold splL at h; simpa using h
    unfold splL; rw [List.getElem?_map, List.getElem?_range hi]; rfl
  rw [List.getElem?_eq_getElem h] at this
  exact Option.some.inj this
theorem splL_len {id : Int} {b : List (BitVec 8)} {s n : Nat} : (splL id b s n).length = n := by unfold splL; simp
/-- the piece i, where it lies -/
theorem pcs_at {w : World} {D : Nat} {vs : List Value} {id : Int} {b : List (BitVec 8)} {s n : Nat} (h : (pcsOb D vs (splL id b s n)).Ok w) (i : Nat) (hi : i < n) : ∃ v, vs[i]? = some v ∧ w.cell? ⟨D, i, none⟩ = some v ∧ Own w 0 v (pieceI id b s i) := by
  obtain ⟨v, hv, ho⟩ := h.holds.each i (by rw [splL_len]; exact hi)
  rw [splL_at] at ho
  exact ⟨v, hv, by rw [blk_at h.holds.blk i]; exact hv, ho⟩
/-- a piece is added -/
theorem addZ {B : Nat} {rest : List Ob} {w : World} {p : CPl} {m : CR} {D : Nat} {vs : List Value} {id : Int} {b : List (BitVec 8)} {s : Nat} (hI : Img id b s) (Z : Sep B (crOb p m :: pcsOb D vs (splL id b s (npc b.length s)) :: rest) w) (i : Nat) (hi : i < npc b.length s) (v : Value) (hv : vs[i]? = some v) (hm : m.id < id ∨ GI m id b s) (had : m.ad ≤ 1000000000) :
    Calls Try.prog 16 #[.pointer (some ⟨p.g, 0, none⟩), v] w fun e w' => e = .returned (.int .i64 0) ∧ ∃ p', p'.g = p.g ∧ Sep B (crOb p' (addP m id b s i) :: pcsOb D vs (splL id b s (npc b.length s)) :: rest) w' ∧ Below B w w' := by
  obtain ⟨u, hu, -, ho⟩ := pcs_at (D := D) (vs := vs) (id := id) (b := b) (s := s) (Z.each _ (List.mem_cons_of_mem _ (List.mem_cons_self ..))) i hi
  rw [hv] at hu
  cases hu
  refine (addPiece_any p m id b s i 0 v w hI hi ho Z.head hm had).mono ?_
  rintro e w' ⟨rfl, p', q1, st⟩
  exact ⟨rfl, p', q1, Z.step st, Z.below st⟩
/-- a new reader beside pieces -/
theorem newZ {B : Nat} {l : List Ob} {w : World} (Z : Sep B l w) : Calls Try.prog 14 #[] w fun e w' => ∃ p, e = .returned (.pointer (some ⟨p.g, 0, none⟩)) ∧ Sep B (crOb p ⟨0, 0, [], 0⟩ :: l) w' ∧ Below w.heap.size w w' := by
  refine (crNew_any w).mono ?_
  rintro e w' ⟨rfl, hok, hb⟩
  refine ⟨⟨w.heap.size, 0, 0, []⟩, rfl, Z.fresh hb hok (fun k hk => ?_), hb⟩
  rcases hk with hk | hk
  · simp [crOb] at hk; omega
  · cases hk
def abc : List (BitVec 8) := [97#8, 98#8, 99#8, 100#8, 101#8]
theorem abc_img : Img 1 abc 2 := ⟨by decide, by decide, by decide, by decide, by decide⟩
theorem own7_strs {w : World} {base : Nat} {v : Value} {l : List (BitVec 8)} (h : Own w base v l) : ∃ a len cap, v = .slice a len cap ∧ ∀ X, Below w.heap.size w X → (convert 22 9 (.slice a len cap)).run Try.prog X = .ok (.string (str l)) X := by
  obtain ⟨a, cap, hv, _, _, hr, _, _⟩ := h.open
  exact ⟨a, _, cap, hv, fun X hX => (hr.later hX).str _ _ rfl⟩
theorem abc_str : str abc = { data := #[97, 98, 99, 100, 101] } := by decide +kernel
def kn1 : CR := addP ⟨0, 0, [], 0⟩ 1 abc 2 2
def kn2 : CR := addP kn1 1 abc 2 0
def kn3 : CR := addP kn2 1 abc 2 1
theorem kn1_GI : GI kn1 1 abc 2 := addP_GI (.inl (by decide)) _
theorem kn2_GI : GI kn2 1 abc 2 := addP_GI (.inr kn1_GI) _
theorem kn3_GI : GI kn3 1 abc 2 := addP_GI (.inr kn2_GI) _
theorem kn2_mis : mis (kn2.ps.map Option.isSome) kn2.ps.length = [1] := by rfl
theorem kn3_all : (kn3.ps.map Option.isSome).any (fun b => !b) = false := by rfl
theorem kn_ad : kn1.ad = 1 ∧ kn2.ad = 2 := ⟨rfl, rfl⟩
end Go.Proofs.Ytgonglbgejaffaa

/- What must come of fixed calls; an image that is refused. -/
namespace Go.Proofs.Ytgonglbgejaffaa
open Go.RowKit Go.Shelf
set_option linter.unusedVariables false
set_option linter.unusedSimpArgs false
set_option maxRecDepth 4000

theorem split_abc (x : Nat) (w : World) (hr : Row w (some ⟨x, 0, none⟩) abc) : Calls Try.prog 6 #[.int .i64 1, .slice (some ⟨x, 0, none⟩) 5 5, .int .i64 2] w fun e w' => ∃ D vs, e = .returned (.tuple #[.slice (some ⟨D, 0, none⟩) 3 3, .int .i64 0]) ∧ vs.length = 3 ∧ (pcsOb D vs (splL 1 abc 2 (npc abc.length 2))).Ok w' ∧ Below w.heap.size w w' := by
  refine (split_yes 1 (some ⟨x, 0, none⟩) 5 abc 2 w abc_img.id abc_img.s1 abc_img.s2 abc_img.bl abc_img.n (by decide) hr (fun h => by cases h)).mono ?_
  rintro e w' ⟨D, vs, rfl, hl, hP, hb⟩
  exact ⟨D, vs, rfl, hl, hP.ob (by rw [hl, splL_len]), hb⟩
set_option maxHeartbeats 8000000 in
theorem known7_any (w : World) : Calls Try.prog 11 #[] w fun e w' => e = .returned (.bool true) ∧ Below w.heap.size w w' := by
  have b1 : Below w.heap.size w (w.alloc (.cells #[.int .u8 97, .int .u8 98, .int .u8 99, .int .u8 100, .int .u8 101] 5 (5, 6))) := (Below.refl _ _).alloc (Nat.le_refl _) _
  have HS : Hid _ := split_abc w.heap.size (w.alloc (.cells #[.int .u8 97, .int .u8 98, .int .u8 99, .int .u8 100, .int .u8 101] 5 (5, 6))) (Row.newl w _ _ _ abc rfl)
  have HB : Hid _ := And.intro b1 trivial
  clear b1
  have hcv : (convert 22 22 (.slice (some ⟨w.heap.size, 0, none⟩) 5 5)).run Try.prog (w.alloc (.cells #[.int .u8 97, .int .u8 98, .int .u8 99, .int .u8 100, .int .u8 101] 5)) = .ok (.slice (some ⟨w.heap.size, 0, none⟩) 5 5) (w.alloc (.cells #[.int .u8 97, .int .u8 98, .int .u8 99, .int .u8 100, .int .u8 101] 5 (5, 6))) := Lib.run_convert_bytes_const (P := Try.prog) w 22 5 #[.int .u8 97, .int .u8 98, .int .u8 99, .int .u8 100, .int .u8 101] 5 5 Try.underlying22 Try.underlying5
  go_enter Try.func11, Try.ntmps11
  go_wp2_with fail
  generalize (w.alloc (.cells #[.int .u8 97, .int .u8 98, .int .u8 99, .int .u8 100, .int .u8 101] 5 (5, 6))) = w1 at *
  clear hcv
  refine (Calls.mono HS.out) ?_
  rintro e w2 ⟨D, vs, rfl, hl, hok, b2⟩
  have bb := below_then HB.out.1 b2
  have Z2 : Sep w.heap.size [] w2 := (Sep.nil (w := w)).later bb
  have Z2' : Sep w.heap.size [pcsOb D vs (splL 1 abc 2 (npc abc.length 2))] w2 := Z2.add (Below.refl _ _) hok (fun k hk => by cases hk) (fun k _ p hp => by cases hp)
  have HN : Hid _ := newZ Z2'
  have H2 : Hid _ := And.intro bb trivial
  obtain ⟨v0, v1, v2, rfl⟩ : ∃ v0 v1 v2, vs = [v0, v1, v2] := by
    match vs, hl with
    | [a, b, c], _ => exact ⟨a, b, c, rfl⟩
  clear HS HB b2 bb Z2 Z2' hok hl
  go_wp2_with fail
  refine (Calls.mono HN.out) ?_
  rintro e w3 ⟨p, rfl, Z3, b3⟩
  obtain ⟨u2, hu2, c2, -⟩ := pcs_at (Z3.each _ (List.mem_cons_of_mem _ (List.mem_cons_self ..))) 2 (by decide)
  obtain ⟨u2', hu2', ho2⟩ := (Z3.each _ (List.mem_cons_of_mem _ (List.mem_cons_self ..))).holds.each 2 (by rw [splL_len]; decide)
  rw [hu2] at hu2'
  cases hu2'
  obtain ⟨xa, xn, xc, rfl⟩ := own_slice ho2
  have HA : Hid _ := addZ abc_img Z3 2 (by decide) _ hu2 (.inl (by decide)) (by decide)
  have H3 : Hid _ := And.intro (below_then H2.out.1 b3) trivial
  clear HN H2 Z3 b3 ho2 hu2
  go_wp2_with fail
  clear c2
  refine (Calls.mono HA.out) ?_
  rintro e w4 ⟨rfl, p4, g4, Z4, b4⟩
  rw [show addP ⟨0, 0, [], 0⟩ 1 abc 2 2 = kn1 from rfl] at Z4
  rw [← g4]
  have bb4 := H3.out.1.trans b4
  obtain ⟨u0, hu0, c0, -⟩ := pcs_at (Z4.each _ (List.mem_cons_of_mem _ (List.mem_cons_self ..))) 0 (by decide)
  obtain ⟨u0', hu0', ho0⟩ := (Z4.each _ (List.mem_cons_of_mem _ (List.mem_cons_self ..))).holds.each 0 (by rw [splL_len]; decide)
  rw [hu0] at hu0'
  cases hu0'
  obtain ⟨ya, yn, yc, rfl⟩ := own_slice ho0
  have HA0 : Hid _ := addZ abc_img (m := kn1) Z4 0 (by decide) _ hu0 (.inr kn1_GI) (by rw [kn_ad.1]; decide)
  have H4 : Hid _ := And.intro bb4 trivial
  clear HA H3 Z4 b4 bb4 ho0 hu0 g4
  generalize p4.g = g at *
  go_wp2_with fail
  clear c0
  refine (Calls.mono HA0.out) ?_
  rintro e w5 ⟨rfl, p5, g5, Z5, b5⟩
  rw [show addP kn1 1 abc 2 0 = kn2 from rfl] at Z5
  have bb5 := H4.out.1.trans b5
  have HM : Hid _ := lawmiss_any p5 kn2 w5 Z5.head (by rw [kn2_GI.len]; decide) (by rw [kn2_GI.len]; decide)
  rw [kn2_mis, g5] at HM
  have H5 : Hid _ := And.intro bb5 (And.intro Z5 g5)
  clear HA0 H4 Z5 b5 bb5 g5
  go_wp2_with fail
  refine (Calls.mono HM.out) ?_
  rintro e w6 ⟨z, rfl, hz, hzn, b6⟩
  have bb6 := below_then H5.out.1 b6
  have Z6 := ((H5.out.2.1.fresh b6 (nuOb_ok hz) (fun k hk => by
    rcases hk with hk | hk
    · exact hzn k (by simpa [nuOb] using hk)
    · cases hk)).third).third
  have g5 := H5.out.2.2
  obtain ⟨za, zc, rfl, -, -, -⟩ := hz.open
  obtain ⟨u1, hu1, c1, -⟩ := pcs_at (Z6.each _ (List.mem_cons_of_mem _ (List.mem_cons_self ..))) 1 (by decide)
  obtain ⟨u1', hu1', ho1⟩ := (Z6.each _ (List.mem_cons_of_mem _ (List.mem_cons_self ..))).holds.each 1 (by rw [splL_len]; decide)
  rw [hu1] at hu1'
  cases hu1'
  obtain ⟨xa1, xn1, xc1, rfl⟩ := own_slice ho1
  have HA1 : Hid _ := addZ abc_img (m := kn2) Z6 1 (by decide) _ hu1 (.inr kn2_GI) (by rw [kn_ad.2]; decide)
  rw [g5] at HA1
  have H6 : Hid _ := And.intro bb6 trivial
  clear HM H5 Z6 b6 bb6 ho1 hu1 g5 hz hzn
  simp only [List.length_cons, List.length_nil, Nat.zero_add] at *
  go_wp2_with fail
  clear c1
  refine (Calls.mono HA1.out) ?_
  rintro e w7 ⟨rfl, p7, g7, Z7, b7⟩
  rw [show addP kn2 1 abc 2 1 = kn3 from rfl] at Z7
  have bb7 := H6.out.1.trans b7
  have hfl := kn3_GI.whole (by decide) kn3_all
  have HW : Hid _ := whole_yes p7 kn3 w7 Z7.head (by rw [kn3_GI.id]; decide) (by rw [kn3_GI.len]; decide) (by rw [kn3_GI.len]; decide) (Nat.le_trans (kn3_GI.lenOf_le (by decide)) (by decide)) kn3_all (by rw [hfl]; exact kn3_GI.sum)
  rw [hfl, g7] at HW
  have H7 : Hid _ := And.intro bb7 (Z7.each _ (List.mem_cons_of_mem _ (List.mem_cons_of_mem _ (List.mem_cons_self ..)))).holds
  clear HA1 H6 Z7 b7 bb7 hfl g7
  go_wp2_with fail
  refine (Calls.mono HW.out) ?_
  rintro e w8 ⟨y, rfl, o8, b8⟩
  obtain ⟨ya8, yn8, yc8, rfl, hcv⟩ := own7_strs o8
  rw [abc_str] at hcv
  have n8 : NOwn w8 (.slice za 1 zc) [1] := NOwn.later (show NOwn w7 _ _ from H7.out.2) b8
  have b9 : Below w8.heap.size w8 (w8.alloc (.cells #[.int .i64 1] 3)) := (Below.refl _ _).alloc (Nat.le_refl _) _
  have n9 : NOwn (w8.alloc (.cells #[.int .i64 1] 3)) (.slice (some ⟨w8.heap.size, 0, none⟩) 1 1) [1] := ⟨rfl, .inr ⟨w8.heap.size, 1, #[.int .i64 1], rfl, Nat.zero_le _, Blk.new' w8 3 [.int .i64 1], by decide, by decide, rfl, rfl⟩⟩
  have HSm : Hid _ := same07_yes _ _ [1] _ (n8.later b9) n9
  have H8 : Hid _ := And.intro (below_then H7.out.1 (below_then b8 b9)) (fun X (hX : Below (w8.alloc (.cells #[.int .i64 1] 3)).heap.size (w8.alloc (.cells #[.int .i64 1] 3)) X) => hcv X (below_then b9 hX))
  clear HW H7 o8 b8 hcv n8 b9 n9
  go_wp2_with fail
  generalize (w8.alloc (.cells #[.int .i64 1] 3)) = w9 at *
  refine (Calls.mono HSm.out) ?_
  rintro e w10 ⟨rfl, b10⟩
  have hcv := H8.out.2 w10 b10
  have F : Hid _ := below_then H8.out.1 b10
  clear H8 HSm b10
  go_wp2
  go_ret
  exact ⟨rfl, F.out⟩
end Go.Proofs.Ytgonglbgejaffaa

/- An image that is refused; the bytes of a piece. -/
namespace Go.Proofs.Ytgonglbgejaffaa
open Go.RowKit Go.Shelf
set_option linter.unusedVariables false
set_option linter.unusedSimpArgs false
set_option maxRecDepth 4000

/-- an image that is refused -/
theorem split_no (id : Int) (a : Option Addr) (cap : Nat) (b : List (BitVec 8)) (s : Int) (w : World) (h : ¬ (idB id = true ∧ 1 ≤ s ∧ s ≤ 4096 ∧ b.length ≤ 65536 ∧ npc b.length s.toNat ≤ 256)) :
    Calls Try.prog 6 #[.int .i64 id, .slice a b.length cap, .int .i64 s] w fun e w' => ∃ E : Int, e = .returned (.tuple #[.slice none 0 0, .int .i64 E]) ∧ (E == 0) = false ∧ w' = w := by
  have HI : Hid _ := isId_any id w
  cases hid : idB id with
  | false =>
    rw [hid] at HI
    go_enter Try.func6, Try.ntmps6
    go_wp2_with fail
    refine (Calls.mono HI.out) ?_
    rintro e _ ⟨rfl, rfl⟩
    clear HI h hid
    go_wp2
    go_ret2
    exact ⟨1, rfl, rfl, rfl⟩
  | true =>
    rw [hid] at HI
    by_cases h1 : s < 1
    · clear h
      go_enter Try.func6, Try.ntmps6
      go_wp2_with fail
      refine (Calls.mono HI.out) ?_
      rintro e _ ⟨rfl, rfl⟩
      clear HI hid
      go_wp2
      go_ret2
      exact ⟨1, rfl, rfl, rfl⟩
    · by_cases h2 : s > 4096
      · clear h
        go_enter Try.func6, Try.ntmps6
        go_wp2_with fail
        refine (Calls.mono HI.out) ?_
        rintro e _ ⟨rfl, rfl⟩
        clear HI hid
        go_wp2
        go_ret2
        exact ⟨1, rfl, rfl, rfl⟩
      · by_cases h3 : b.length > 65536
        · have h3' : (b.length : Int) > 65536 := by omega
          clear h
          go_enter Try.func6, Try.ntmps6
          go_wp2_with fail
          refine (Calls.mono HI.out) ?_
          rintro e _ ⟨rfl, rfl⟩
          clear HI hid
          go_wp2
          go_ret2
          exact ⟨3, rfl, rfl, rfl⟩
        · obtain ⟨n, rfl⟩ : ∃ n : Nat, s = n := ⟨s.toNat, by omega⟩
          have h4 : ¬ npc b.length n ≤ 256 := fun hn => h ⟨hid, by omega, by omega, by omega, by rw [Int.toNat_natCast]; exact hn⟩
          have HP : Hid _ := pieces_any b.length n (by omega) (by omega) (by omega) w
          have h3' : ¬ (b.length : Int) > 65536 := by omega
          have h4' : ((npc b.length n : Nat) : Int) > 256 := by omega
          clear h h3 h4
          generalize npc b.length n = N at *
          go_enter Try.func6, Try.ntmps6
          go_wp2_with fail
          refine (Calls.mono HI.out) ?_
          rintro e _ ⟨rfl, rfl⟩
          clear HI hid
          go_wp2_with fail
          refine (Calls.mono HP.out) ?_
          rintro e _ ⟨rfl, rfl⟩
          clear HP
          go_wp2
          go_ret2
          exact ⟨3, rfl, rfl, rfl⟩
/-- two bytes of a number up to 256 -/
theorem be2_small : ∀ n : Fin 257, (be 2 (BitVec.ofInt 64 (n.val : Int))) = [BitVec.ofNat 8 (n.val / 256), BitVec.ofNat 8 (n.val % 256)] := by decide +kernel
theorem piece_bytes {id : Int} {b : List (BitVec 8)} {s i : Nat} (hi : i < 256) (hn : npc b.length s ≤ 256) : bt (pieceI id b s i) 8 = 0 ∧ bt (pieceI id b s i) 9 = i ∧ bt (pieceI id b s i) 10 = ((npc b.length s / 256 : Nat) : Int) ∧ bt (pieceI id b s i) 11 = ((npc b.length s % 256 : Nat) : Int) := by
  have e1 := be2_small ⟨i, by omega⟩
  have e2 := be2_small ⟨npc b.length s, by omega⟩
  simp only at e1 e2
  have l8 := be_length 8 (BitVec.ofInt 64 id) (by omega)
  unfold pieceI pcB pcH
  rw [e1, e2]
  obtain ⟨x0, x1, x2, x3, x4, x5, x6, x7, hx⟩ : ∃ x0 x1 x2 x3 x4 x5 x6 x7, be 8 (BitVec.ofInt 64 id) = [x0, x1, x2, x3, x4, x5, x6, x7] := by
    match be 8 (BitVec.ofInt 64 id), l8 with
    | [a0, a1, a2, a3, a4, a5, a6, a7], _ => exact ⟨a0, a1, a2, a3, a4, a5, a6, a7, rfl⟩
  rw [hx]
  have q1 : i / 256 = 0 := by omega
  have q2 : i % 256 = i := by omega
  have q3 : npc b.length s / 256 < 256 := by omega
  rw [q1, q2]
  unfold bt
  refine ⟨rfl, ?_, ?_, ?_⟩
  · show ((BitVec.ofNat 8 i).toNat : Int) = i
    rw [BitVec.toNat_ofNat]; omega
  · show ((BitVec.ofNat 8 (npc b.length s / 256)).toNat : Int) = _
    rw [BitVec.toNat_ofNat]; omega
  · show ((BitVec.ofNat 8 (npc b.length s % 256)).toNat : Int) = _
    rw [BitVec.toNat_ofNat]; omega
/-- how many bytes the first k pieces have -/
def clen (b : List (BitVec 8)) (s k : Nat) : Nat := (b.take (k * s)).length
theorem clen_succ (b : List (BitVec 8)) (s k : Nat) : clen b s (k + 1) = clen b s k + (chk b s k).length := by
  unfold clen chk
  rw [Nat.add_mul, Nat.one_mul, List.take_add, List.length_append]
theorem clen_le (b : List (BitVec 8)) (s k : Nat) : clen b s k ≤ b.length := by unfold clen; rw [List.length_take]; omega
theorem clen_all (b : List (BitVec 8)) (s : Nat) (hs : 1 ≤ s) : clen b s (npc b.length s) = b.length := by unfold clen; rw [List.take_of_length_le (npc_ge _ _ hs)]
theorem chk_full (b : List (BitVec 8)) (s k : Nat) (hs : 1 ≤ s) (hk : k + 1 < npc b.length s) : (chk b s k).length = s := by
  have := npc_most b.length s hs (k + 1) hk
  rw [Nat.add_mul, Nat.one_mul] at this
  unfold chk
  rw [List.length_take, List.length_drop]; omega
end Go.Proofs.Ytgonglbgejaffaa

/- Which pieces are there behind an Add; Id. -/
namespace Go.Proofs.Ytgonglbgejaffaa
open Go.RowKit Go.Shelf
set_option linter.unusedVariables false
set_option linter.unusedSimpArgs false
set_option maxRecDepth 4000

/-- which pieces are there -/
def th (m : CR) : List Bool := m.ps.map Option.isSome
theorem th_len (m : CR) : (th m).length = m.ps.length := by unfold th; rw [List.length_map]
theorem th_setPc (m : CR) (i : Nat) (d : List (BitVec 8)) (hi : i < m.ps.length) : th (setPc m i d) = (th m).set i true := by
  unfold th setPc
  split
  · show (m.ps.set i (some d)).map Option.isSome = _
    rw [List.map_set]; rfl
  · next hne =>
    refine List.ext_getElem (by simp) (fun j h1 h2 => ?_)
    rw [List.length_map] at h1
    by_cases hij : i = j
    · subst hij
      rw [List.getElem_set_self, List.getElem_map]
      cases hq : m.ps[i] with
      | some _ => rfl
      | none => exact absurd (by rw [List.getElem?_eq_getElem h1, hq]) hne
    · rw [List.getElem_set_ne hij]
theorem addP_th {m : CR} {id : Int} {b : List (BitVec 8)} {s : Nat} (h : GI m id b s) (i : Nat) (hi : i < npc b.length s) : th (addP m id b s i) = (th m).set i true := by
  have hn : ¬ m.id < id := by rw [h.id]; omega
  unfold addP gm
  rw [if_neg hn]
  exact th_setPc m i _ (by rw [h.len]; exact hi)
theorem addP_th0 {m : CR} {id : Int} {b : List (BitVec 8)} {s : Nat} (h : m.id < id) (i : Nat) (hi : i < npc b.length s) : th (addP m id b s i) = (List.replicate (npc b.length s) false).set i true := by
  unfold addP gm
  rw [if_pos h]
  refine (th_setPc _ i _ (by simp [begM]; exact hi)).trans ?_
  unfold th begM
  simp
/-- the first k are there -/
def Fst (m : CR) (k : Nat) : Prop := ∀ i, i < k → (th m)[i]? = some true
theorem Fst.succ {m : CR} {id : Int} {b : List (BitVec 8)} {s k : Nat} (h : (k = 0 ∧ m.id < id) ∨ (GI m id b s ∧ Fst m k)) (hk : k < npc b.length s) : GI (addP m id b s k) id b s ∧ Fst (addP m id b s k) (k + 1) := by
  refine ⟨addP_GI (h.imp And.right And.left) k, fun i hi => ?_⟩
  rcases h with ⟨rfl, h⟩ | ⟨h, hf⟩
  · obtain rfl : i = 0 := by omega
    rw [addP_th0 h 0 hk, List.getElem?_set_self (by simp; exact hk)]
  · rw [addP_th h k hk]
    by_cases e : k = i
    · subst e
      rw [List.getElem?_set_self (by rw [th_len, h.len]; exact hk)]
    · rw [List.getElem?_set_ne e]
      exact hf i (by omega)
theorem Fst.all {m : CR} (h : Fst m m.ps.length) : (m.ps.map Option.isSome).any (fun b => !b) = false := by
  rw [List.any_eq_false]
  intro x hx
  obtain ⟨i, hi, rfl⟩ := List.getElem_of_mem hx
  rw [List.length_map] at hi
  have := h i hi
  unfold th at this
  rw [List.getElem?_eq_getElem (by rw [List.length_map]; exact hi)] at this
  injection this with e
  rw [e]; decide
theorem crId_any (p : CPl) (m : CR) (w : World) (h : (crOb p m).Ok w) : Calls Try.prog 23 #[.pointer (some ⟨p.g, 0, none⟩)] w fun e w' => e = .returned (.int .i64 m.id) ∧ w = w' := by
  have y0 := blk_at h.holds.blk 0
  simp only [List.getElem?_cons_zero, List.getElem?_cons_succ] at y0
  generalize p.g = g at *
  clear h
  go_enter Try.func23, Try.ntmps23
  go_wp2
  go_ret
  exact ⟨rfl, rfl⟩
theorem wholeZ {B : Nat} {rest : List Ob} {w : World} {p : CPl} {m : CR} {id : Int} {b : List (BitVec 8)} {s : Nat} (hI : Img id b s) (Z : Sep B (crOb p m :: rest) w) (hG : GI m id b s) (hF : Fst m (npc b.length s)) :
    Calls Try.prog 18 #[.pointer (some ⟨p.g, 0, none⟩)] w fun e w' => ∃ z, e = .returned (.tuple #[z, .bool true]) ∧ Own w' w.heap.size z b ∧ Below w.heap.size w w' := by
  have hx : (m.ps.map Option.isSome).any (fun b => !b) = false := Fst.all (by rw [hG.len]; exact hF)
  have hfl := hG.whole hI.s1 hx
  have h1 := npc_1 b.length s
  have := hI.pos
  have h := whole_yes p m w Z.head (by rw [hG.id]; omega) (by rw [hG.len]; omega) (by rw [hG.len]; exact hI.n) (Nat.le_trans (hG.lenOf_le hI.s1) hI.bl) hx (by rw [hfl]; exact hG.sum)
  rw [hfl] at h
  exact h
end Go.Proofs.Ytgonglbgejaffaa
