/- Pieces of an image are added; what is missing. -/
import Derived.Test.YtdagekciipfnoaaXCk15
import Derived.Deep.RegionWith
namespace Go.Proofs.Ytdagekciipfnoaa
open Go.RowKit Go.Shelf
set_option linter.unusedVariables false
set_option linter.unusedSimpArgs false
set_option maxRecDepth 4000

theorem dn7 (B : Nat) (w : World) (n : Nat) : Below B w (w.drewN n) := ⟨rfl, rfl, rfl, Nat.le_refl _, fun _ _ => rfl⟩
theorem cell_later7 {w w' : World} {x : Addr} {v : Value} (hb : Below w.heap.size w w') (h : w.cell? x = some v) : w'.cell? x = some v := by
  have hx : x.block < w.heap.size := by
    rcases Nat.lt_or_ge x.block w.heap.size with h1 | h1
    · exact h1
    · unfold World.cell? at h
      rw [Array.getElem?_eq_none h1] at h
      simp at h
  rw [World.cell?_of_block (w := w) (hb.block _ hx)]
  exact h
set_option maxHeartbeats 1000000 in
theorem same07_yes (v u : Value) (l : List Int) (w : World) (h : NOwn w v l) (k : NOwn w u l) :
    Calls Try.prog 21 #[v, u] w fun e w' => e = .returned (.bool true) ∧ Below w.heap.size w w' := by
  obtain ⟨va, vc, rfl, hvc, hcs, hvm⟩ := h.open
  obtain ⟨ua, uc, rfl, huc, hds, -⟩ := k.open
  have HC : Hid _ := And.intro hcs hds
  have hlm : l.length ≤ maxLen := Nat.le_trans hvc hvm
  unfold maxLen at hlm
  clear h k hcs hds
  go_enter Try.func21, Try.ntmps21
  go_wp2_with fail
  go_loopw [5] (fun iv wr => ∃ (k : Nat), iv = .int .i64 k ∧ k ≤ l.length ∧ Below w.heap.size w wr) (fun iv _ => l.length - (intOf iv).toNat)
  case atStart => exact ⟨0, rfl, by omega, Below.refl _ _⟩
  case round =>
    obtain ⟨k, rfl, hk, hb⟩ := hrel
    by_cases hlt : k < l.length
    · obtain ⟨b1, rfl, -, k1⟩ := HC.out.1 k hlt
      obtain ⟨b2, rfl, -, k2⟩ := HC.out.2 k hlt
      have k1' := cell_later7 hb k1
      have k2' := cell_later7 hb k2
      have q1 : (k : Int) < l.length := by omega
      generalize l[k] = x at *
      have HB : Hid _ := hb
      clear k1 k2 hb
      go_wp2_with fail
      go_quiet (fail)
      go_wp2
      go_roundw
      case rel => exact ⟨k + 1, by go_num, by omega, HB.out.trans (dn7 _ _ _)⟩
      case measure => simp [intOf]; omega
    · obtain rfl : k = l.length := by omega
      go_wp2
      go_ret
      exact ⟨rfl, hb⟩


/-- an image that can be cut -/
structure Img (id : Int) (b : List (BitVec 8)) (s : Nat) : Prop where
  id : idB id = true
  s1 : 1 ≤ s
  s2 : s ≤ 4096
  bl : b.length ≤ 65536
  n : npc b.length s ≤ 256
theorem Img.pos {id : Int} {b : List (BitVec 8)} {s : Nat} (h : Img id b s) : 1 ≤ id := by
  have := h.id; unfold idB at this; simp at this; exact this.1
theorem chk_len {b : List (BitVec 8)} {s : Nat} (i : Nat) : (chk b s i).length ≤ s := by unfold chk; rw [List.length_take]; omega
theorem piece_len {id : Int} {b : List (BitVec 8)} {s i : Nat} : (pieceI id b s i).length = 22 + (chk b s i).length := by
  unfold pieceI chk
  exact pcB_len _ _ _ _ _
theorem piece_is {id : Int} {b : List (BitVec 8)} {s : Nat} (h : Img id b s) (i : Nat) (hi : i < npc b.length s) : dcE (pieceI id b s i) = 0 ∧ dcR (pieceI id b s i) = (id, (i : Int), ((npc b.length s : Nat) : Int), ((Crc.sum b).toNat : Int), chk b s i) := by
  have hn := h.n
  have hs2 := h.s2
  have := chk_len (b := b) (s := s) i
  exact piece_back h.id (by omega) (by omega) (by omega) (d := chk b s i) (by omega)
/-- what the reader gathers when a piece of that image comes -/
def gm (m : CR) (id : Int) (b : List (BitVec 8)) (s : Nat) : CR := if m.id < id then begM m id ((Crc.sum b).toNat : Int) (npc b.length s) else m
def addP (m : CR) (id : Int) (b : List (BitVec 8)) (s i : Nat) : CR := addM (setPc (gm m id b s) i (chk b s i))
theorem addP_GI {m : CR} {id : Int} {b : List (BitVec 8)} {s : Nat} (h : m.id < id ∨ GI m id b s) (i : Nat) : GI (addP m id b s i) id b s := by
  unfold addP gm
  by_cases hl : m.id < id
  · rw [if_pos hl]; exact ((GI.begin m id b s).set i).add
  · rw [if_neg hl]; exact ((h.resolve_left hl).set i).add
theorem addP_ad {m : CR} {id : Int} {b : List (BitVec 8)} {s i : Nat} : (addP m id b s i).ad = m.ad + 1 := by
  unfold addP addM
  simp only [setPc_ad]
  unfold gm; split <;> rfl
theorem addPiece_any (p : CPl) (m : CR) (id : Int) (b : List (BitVec 8)) (s i base : Nat) (v : Value) (w : World) (hI : Img id b s) (hi : i < npc b.length s) (hv : Own w base v (pieceI id b s i)) (h : (crOb p m).Ok w) (hm : m.id < id ∨ GI m id b s) (had : m.ad ≤ 1000000000) :
    Calls Try.prog 12 #[.pointer (some ⟨p.g, 0, none⟩), v] w fun e w' => e = .returned (.int .i64 0) ∧ ∃ p', p'.g = p.g ∧ Step w w' (crOb p m) (crOb p' (addP m id b s i)) := by
  obtain ⟨a, cap, rfl, g1, g2, g3, g4, -⟩ := hv.open
  obtain ⟨e1, e2⟩ := piece_is hI i hi
  have hs1 := hI.s1
  have hbl := hI.bl
  have hlen : (pieceI id b s i).length ≤ 140737488351232 := by rw [piece_len]; have := chk_len (b := b) (s := s) i; have := hI.s2; omega
  unfold addP gm
  by_cases hl : m.id < id
  · rw [if_pos hl]
    have hck := chk_len (b := b) (s := s) i
    have hs2 := hI.s2
    exact add_new a cap _ p m w h g1 g3 g4 hlen e1 id _ i _ (chk b s i) e2 hl hi hI.n (by omega) had
  · rw [if_neg hl]
    have hG := hm.resolve_left hl
    exact add_same a cap _ p m w h g1 g3 g4 hlen e1 id _ i _ (chk b s i) e2 hG.id hG.sum hG.len hi hI.n (fun hn => by have := hG.room hs1 i hn; omega) had
theorem addOld_any (p : CPl) (m : CR) (id : Int) (b : List (BitVec 8)) (s i base : Nat) (v : Value) (w : World) (hI : Img id b s) (hi : i < npc b.length s) (hv : Own w base v (pieceI id b s i)) (h : (crOb p m).Ok w) (hm : id < m.id) :
    Calls Try.prog 12 #[.pointer (some ⟨p.g, 0, none⟩), v] w fun e w' => e = .returned (.int .i64 5) ∧ Below w.heap.size w w' := by
  obtain ⟨a, cap, rfl, g1, g2, g3, g4, -⟩ := hv.open
  obtain ⟨e1, e2⟩ := piece_is hI i hi
  have hlen : (pieceI id b s i).length ≤ 140737488351232 := by rw [piece_len]; have := chk_len (b := b) (s := s) i; have := hI.s2; omega
  exact add_old a cap _ p m w h g1 g3 g4 hlen e1 id _ i _ (chk b s i) e2 hm
/-- what is missing, as a list -/
theorem lawmiss_any (p : CPl) (m : CR) (w : World) (h : (crOb p m).Ok w) (hne : m.ps.length ≠ 0) (hn : m.ps.length ≤ 256) :
    Calls Try.prog 14 #[.pointer (some ⟨p.g, 0, none⟩)] w fun e w' => ∃ v, e = .returned v ∧ NOwn w' v (mis (m.ps.map Option.isSome) m.ps.length) ∧ (∀ k, v.ownBlock = some k → w.heap.size ≤ k) ∧ Below w.heap.size w w' := by
  have hml := mis_len (m.ps.map Option.isSome) m.ps.length
  refine (lawmiss_gen (some ⟨p.g, 0, none⟩) (mis (m.ps.map Option.isSome) m.ps.length) w (by omega) (fun w1 w2 => Below w1.heap.size w1 w2) (fun w1 b1 => ?_) (fun w1 w2 b => ⟨b.size, fun k _ hk => b.block k hk⟩)).mono ?_
  · have hP := (h.later b1).holds
    have hG := hP.blk
    unfold CPl.tv CPl.dv at hG
    rw [if_neg hne, if_neg hne] at hG
    have hT := hP.there hne
    rw [show m.ps.map isB = (m.ps.map Option.isSome).map Value.bool by rw [List.map_map]; rfl] at hT
    have := missing_raw p.g p.t (m.ps.map Option.isSome) _ _ _ _ _ _ _ _ _ w1 (by rw [List.length_map]; exact hG) hT (by rw [List.length_map]; omega)
    rw [List.length_map] at this
    exact this
  · rintro e w' ⟨v, rfl, ho, w1, w2, b1, s1, b2, ht, hf⟩
    exact ⟨v, rfl, ho, fun k hk => Nat.le_trans (below_then b1 b2).size (hf k hk), (below_then b1 b2).trans (ht.below _ (Nat.le_trans b1.size b2.size) (fun k e => by omega))⟩
end Go.Proofs.Ytdagekciipfnoaa

