/- text, the document's: Digits. -/
import Derived.Test.YtligmiajlbjecaaDoorXTx4
import Derived.Test.YtligmiajlbjecaaDoorXSumW2
import Derived.Deep.CutRange
namespace Go.Proofs.YtligmiajlbjecaaDoor
open Go.RowKit
set_option linter.unusedVariables false
set_option linter.unusedSimpArgs false
set_option maxRecDepth 8000

def bvs (l : List UInt8) : List (BitVec 8) := l.map (fun c => BitVec.ofNat 8 c.toNat)
theorem bvs_len (l : List UInt8) : (bvs l).length = l.length := List.length_map ..
theorem str_bvs (l : List UInt8) : str (bvs l) = ⟨l.toArray⟩ := by
  have h : (str (bvs l)).data.toList = l := by
    unfold str bvs
    rw [strOfNums_data, List.map_map, List.map_map]
    conv => rhs; rw [← List.map_id l]
    refine List.map_congr_left (fun c _ => ?_)
    simp only [Function.comp, Int.toNat_natCast, BitVec.toNat_ofNat, id]
    rw [Nat.mod_eq_of_lt c.toNat_lt]
    exact UInt8.ofNat_toNat
  cases hs : str (bvs l) with
  | mk d =>
    rw [hs] at h
    have h' : d.toList = l := h
    rw [← h']
def unI : Nat → Int
  | 0 => 0
  | 1 => 1
  | 2 => 10
  | 3 => 100
  | 4 => 1000
  | 5 => 10000
  | 6 => 100000
  | 7 => 1000000
  | _ => 10000000
/-- the digits that stand when the unit k comes -/
def lkD (m k : Nat) : List UInt8 := if k = 0 then Lib.decDigits m else dgs (m / 10 ^ k)
theorem lkD_len (m k : Nat) (hm : m ≤ 16777215) : (lkD m k).length ≤ 100 := by
  have h1 : ∀ u, u ≤ 16777215 → (Lib.decDigits u).length ≤ 8 := by
    intro u hu
    cases hn : decide ((Lib.decDigits u).length ≤ 8) with
    | true => exact of_decide_eq_true hn
    | false =>
      have h8 : 8 < (Lib.decDigits u).length := by have := of_decide_eq_false hn; omega
      have := long_bad h8
      rw [(numOk_iff _).2 ⟨dd_good u, by rw [dd_vl]; exact hu⟩] at this
      cases this
  unfold lkD dgs
  have hd : m / 10 ^ k ≤ 16777215 := Nat.le_trans (Nat.div_le_self _ _) hm
  split
  · have := h1 m hm; omega
  · split
    · simp
    · have := h1 _ hd; omega
theorem bvs_snoc (l : List UInt8) (d : Nat) (h : d < 10) : bvs l ++ [BitVec.ofNat 8 (48 + d)] = bvs (l ++ [UInt8.ofNat (48 + d)]) := by
  unfold bvs
  rw [List.map_append]
  simp only [List.map_cons, List.map_nil, dg_nat h]
set_option maxHeartbeats 8000000 in
theorem rDigits_any (n : Int) (w : World) : Calls Tryd.prog 23 #[.int .i64 n] w fun e w' => e = .returned (.string ⟨(dgT n).toArray⟩) ∧ Below w.heap.size w w' := by
  by_cases h0 : n < 0
  · have F : Hid (dgT n = []) := (by unfold dgT; rw [if_neg (by omega)] : dgT n = [])
    go_enter Tryd.func23, Tryd.ntmps23
    go_wp2
    go_ret
    exact ⟨by first | (rw [F.out]; done) | (rw [F.out]; rfl), Below.refl _ _⟩
  · by_cases h1 : 16777215 < n
    · have F : Hid (dgT n = []) := (by unfold dgT; rw [if_neg (by omega)] : dgT n = [])
      go_enter Tryd.func23, Tryd.ntmps23
      go_wp2
      go_ret
      exact ⟨by first | (rw [F.out]; done) | (rw [F.out]; rfl), Below.refl _ _⟩
    · obtain ⟨m, rfl⟩ : ∃ m : Nat, n = m := ⟨n.toNat, by omega⟩
      have hm : m ≤ 16777215 := by omega
      have F0 : Hid (dgT (m : Int) = Lib.decDigits m) := (by unfold dgT; rw [if_pos (by omega), Int.toNat_natCast] : dgT (m : Int) = Lib.decDigits m)
      go_enter Tryd.func23, Tryd.ntmps23
      go_wp2_with fail
      go_loopw [3, 4] (fun bv uv wr => ∃ (k : Nat) (a : Option Addr) (c : Nat), k ≤ 8 ∧ uv = .int .i64 (unI k) ∧ bv = .slice a (lkD m k).length c ∧ Own wr w.heap.size (.slice a (lkD m k).length c) (bvs (lkD m k)) ∧ Below w.heap.size w wr) (fun _ uv _ => (intOf uv).toNat)
      case atStart =>
        refine ⟨8, none, 0, by omega, rfl, ?_, ?_, Below.refl _ _⟩
        · have e : lkD m 8 = [] := by unfold lkD dgs; rw [if_neg (by omega), if_pos (Nat.div_eq_of_lt (by omega))]
          rw [e]; rfl
        · have e : lkD m 8 = [] := by unfold lkD dgs; rw [if_neg (by omega), if_pos (Nat.div_eq_of_lt (by omega))]
          rw [e]; exact Own.nil _ _
      case round =>
        obtain ⟨k, a, c, hk, rfl, rfl, hO, hB⟩ := hrel
        have hlen := lkD_len m k hm
        have hk' : k = 0 ∨ k = 1 ∨ k = 2 ∨ k = 3 ∨ k = 4 ∨ k = 5 ∨ k = 6 ∨ k = 7 ∨ k = 8 := by omega
        clear hk
        rcases hk' with rfl | rfl | rfl | rfl | rfl | rfl | rfl | rfl | rfl
        · have hs : (convert 23 9 (.slice a (lkD m 0).length c)).run Tryd.prog wr = .ok (.string ⟨(Lib.decDigits m).toArray⟩) wr := by
            obtain ⟨a', c', e', -, -, hr', -, -⟩ := hO.open
            simp only [Value.slice.injEq] at e'
            obtain ⟨rfl, -, -⟩ := e'
            have := hr'.str (lkD m 0).length c (bvs_len _)
            rw [str_bvs] at this
            exact this
          have F : Hid _ := And.intro F0.out hB
          rw [show unI 0 = 0 from rfl]
          clear hO hB hlen F0
          go_wp2
          go_ret
          exact ⟨by first | (rw [F.out.1]; done) | (rw [F.out.1]; rfl), F.out.2⟩
        · have hq : m / 1 = 10 * (m / 10) + m / 1 % 10 := by omega
          obtain ⟨d, hd⟩ : ∃ d, d = m / 1 % 10 := ⟨_, rfl⟩
          obtain ⟨M, hM⟩ : ∃ M, M = m / 10 := ⟨_, rfl⟩
          have hd10 : d < 10 := by omega
          have e1 : lkD m 1 = dgs M := by unfold lkD; rw [if_neg (by omega), hM]
          rw [e1] at hO hlen ⊢
          rw [show unI 1 = 1 from rfl]
          have e2 : lkD m 0 = dgs M ++ [UInt8.ofNat (48 + d)] := by unfold lkD; rw [if_pos rfl, hM, hd, ← dgs_last m, show m / 1 % 10 = m % 10 by rw [Nat.div_one]]
          have t3 : (m : Int) % 10 = (d : Int) := by rw [hd]; omega
          obtain ⟨bb, hbb⟩ : ∃ bb : BitVec 8, bb = BitVec.ofNat 8 (48 + d) := ⟨_, rfl⟩
          have hbn : bb.toNat = 48 + d := by rw [hbb, BitVec.toNat_ofNat]; omega
          have x1 : IntKind.i64.wrap (48 + (d : Int)) = (bb.toNat : Int) := by rw [IntKind.wrap_i64]; omega
          have x2 : (48 : Int) + (d : Int) = (bb.toNat : Int) := by omega
          have x3 : IntKind.u8.wrap (bb.toNat : Int) = (bb.toNat : Int) := by rw [IntKind.wrap_u8]; omega
          have x4 : IntKind.u8.wrap (48 + (d : Int)) = (bb.toNat : Int) := by rw [IntKind.wrap_u8]; omega
          have HO : Hid _ := And.intro hO (And.intro hB hlen)
          clear hO hB hlen F0 hq
          by_cases hM0 : M = 0
          · rw [hM0] at HO e1 e2 ⊢
            rw [show dgs 0 = [] from rfl] at HO e1 e2 ⊢
            rw [show ([] : List UInt8).length = 0 from rfl] at HO ⊢
            by_cases hd0 : d = 0
            · have p2 : decide ((0 : Int) < (d : Int)) = false := by rw [hd0]; rfl
              have p2' : decide (0 < d) = false := by rw [hd0]; rfl
              have eL : Hid (bvs [] ++ [bb] = bvs (lkD m 0)) := (by rw [e2, ← bvs_snoc _ _ hd10, hbb] : bvs [] ++ [bb] = bvs (lkD m 0))
              clear e1 e2 hbn hbb hd hM hM0
              clear hd0
              go_wp2_with (at_builtin; refine wpList_append_bytes _ rfl _ _ rfl w.heap.size _ (bvs []) rfl (HO.out.1.later ((Below.refl _ _).alloc (Nat.le_refl _) _)) (some ⟨wr.heap.size, 0, none⟩) 1 1 [bb] rfl rfl (Row.newl _ _ _ _ _ rfl) (fun h => by cases h) (Nat.le_refl _) (by first | (simp [bvs]; done) | (rw [bvs_len]; have := HO.out.2.2; omega)) (by have := HO.out.2.1.size; simp; omega) ?_)
              intro v3 w3 ho3 hg3
              have hb3 : Below w.heap.size w w3 := (HO.out.2.1.alloc HO.out.2.1.size _).grown hg3 (by have := HO.out.2.1.size; simp; omega) (own_block HO.out.1)
              rw [eL.out] at ho3
              obtain ⟨a3, c3, ez, -, -, -, -, -⟩ := ho3.open
              rw [bvs_len] at ez
              subst ez
              have FF : Hid _ := And.intro ho3 hb3
              clear ho3 hb3 hg3 eL HO
              go_wp2
              go_roundw
              case rel => exact ⟨0, a3, c3, by omega, rfl, rfl, FF.out.1, FF.out.2⟩
              case measure => first | decide | (simp [intOf]; done) | (simp [intOf]; omega)
            · have p2 : (0 : Int) < (d : Int) := by omega
              have eL : Hid (bvs [] ++ [bb] = bvs (lkD m 0)) := (by rw [e2, ← bvs_snoc _ _ hd10, hbb] : bvs [] ++ [bb] = bvs (lkD m 0))
              clear e1 e2 hbn hbb hd hM hM0
              clear hd0
              go_wp2_with (at_builtin; refine wpList_append_bytes _ rfl _ _ rfl w.heap.size _ (bvs []) rfl (HO.out.1.later ((Below.refl _ _).alloc (Nat.le_refl _) _)) (some ⟨wr.heap.size, 0, none⟩) 1 1 [bb] rfl rfl (Row.newl _ _ _ _ _ rfl) (fun h => by cases h) (Nat.le_refl _) (by first | (simp [bvs]; done) | (rw [bvs_len]; have := HO.out.2.2; omega)) (by have := HO.out.2.1.size; simp; omega) ?_)
              intro v3 w3 ho3 hg3
              have hb3 : Below w.heap.size w w3 := (HO.out.2.1.alloc HO.out.2.1.size _).grown hg3 (by have := HO.out.2.1.size; simp; omega) (own_block HO.out.1)
              rw [eL.out] at ho3
              obtain ⟨a3, c3, ez, -, -, -, -, -⟩ := ho3.open
              rw [bvs_len] at ez
              subst ez
              have FF : Hid _ := And.intro ho3 hb3
              clear ho3 hb3 hg3 eL HO
              go_wp2
              go_roundw
              case rel => exact ⟨0, a3, c3, by omega, rfl, rfl, FF.out.1, FF.out.2⟩
              case measure => first | decide | (simp [intOf]; done) | (simp [intOf]; omega)
          · have hl0 : 0 < (dgs M).length := by rcases Nat.eq_zero_or_pos (dgs M).length with h | h; exact absurd ((dgs_nil M).1 h) hM0; exact h
            have p1 : (0 : Int) < ((dgs M).length : Int) := by omega
            have p3 : ¬ (dgs M) = [] := fun h => by rw [h] at hl0; exact absurd hl0 (by decide)
            have eL : Hid (bvs (dgs M) ++ [bb] = bvs (lkD m 0)) := (by rw [e2, ← bvs_snoc _ _ hd10, hbb] : bvs (dgs M) ++ [bb] = bvs (lkD m 0))
            clear e1 e2 hbn hbb hd hM
            clear hM0
            go_wp2_with (at_builtin; refine wpList_append_bytes _ rfl _ _ rfl w.heap.size _ (bvs (dgs M)) rfl (HO.out.1.later ((Below.refl _ _).alloc (Nat.le_refl _) _)) (some ⟨wr.heap.size, 0, none⟩) 1 1 [bb] rfl rfl (Row.newl _ _ _ _ _ rfl) (fun h => by cases h) (Nat.le_refl _) (by first | (simp [bvs]; done) | (rw [bvs_len]; have := HO.out.2.2; omega)) (by have := HO.out.2.1.size; simp; omega) ?_)
            intro v3 w3 ho3 hg3
            have hb3 : Below w.heap.size w w3 := (HO.out.2.1.alloc HO.out.2.1.size _).grown hg3 (by have := HO.out.2.1.size; simp; omega) (own_block HO.out.1)
            rw [eL.out] at ho3
            obtain ⟨a3, c3, ez, -, -, -, -, -⟩ := ho3.open
            rw [bvs_len] at ez
            subst ez
            have FF : Hid _ := And.intro ho3 hb3
            clear ho3 hb3 hg3 eL HO
            go_wp2
            go_roundw
            case rel => exact ⟨0, a3, c3, by omega, rfl, rfl, FF.out.1, FF.out.2⟩
            case measure => first | decide | (simp [intOf]; done) | (simp [intOf]; omega)
        · have hq : m / 10 = 10 * (m / 100) + m / 10 % 10 := by omega
          obtain ⟨d, hd⟩ : ∃ d, d = m / 10 % 10 := ⟨_, rfl⟩
          obtain ⟨M, hM⟩ : ∃ M, M = m / 100 := ⟨_, rfl⟩
          have hd10 : d < 10 := by omega
          have e1 : lkD m 2 = dgs M := by unfold lkD; rw [if_neg (by omega), hM]
          rw [e1] at hO hlen ⊢
          rw [show unI 2 = 10 from rfl]
          have e2 : lkD m 1 = dgs (10 * M + d) := by unfold lkD; rw [if_neg (by omega), show 10 ^ 1 = 10 from rfl, hq, ← hM, ← hd]
          have t3 : (m : Int) / 10 % 10 = (d : Int) := by rw [hd]; omega
          have t4 : ((m : Int) / 10) % 10 = (d : Int) := t3
          obtain ⟨bb, hbb⟩ : ∃ bb : BitVec 8, bb = BitVec.ofNat 8 (48 + d) := ⟨_, rfl⟩
          have hbn : bb.toNat = 48 + d := by rw [hbb, BitVec.toNat_ofNat]; omega
          have x1 : IntKind.i64.wrap (48 + (d : Int)) = (bb.toNat : Int) := by rw [IntKind.wrap_i64]; omega
          have x2 : (48 : Int) + (d : Int) = (bb.toNat : Int) := by omega
          have x3 : IntKind.u8.wrap (bb.toNat : Int) = (bb.toNat : Int) := by rw [IntKind.wrap_u8]; omega
          have x4 : IntKind.u8.wrap (48 + (d : Int)) = (bb.toNat : Int) := by rw [IntKind.wrap_u8]; omega
          have HO : Hid _ := And.intro hO (And.intro hB hlen)
          clear hO hB hlen F0 hq
          by_cases hM0 : M = 0
          · rw [hM0] at HO e1 e2 ⊢
            rw [show dgs 0 = [] from rfl] at HO e1 ⊢
            rw [show ([] : List UInt8).length = 0 from rfl] at HO ⊢
            by_cases hd0 : d = 0
            · subst hd0
              have eL : Hid (([] : List UInt8) = lkD m 1) := (by rw [e2]; rfl : ([] : List UInt8) = lkD m 1)
              rw [show ((0 : Nat) : Int) = 0 from rfl] at t3 t4
              clear e1 e2 hbn hbb hd hM hM0 x1 x2 x3 x4
              go_wp2
              go_roundw
              case rel => exact ⟨1, a, c, by omega, rfl, by rw [← eL.out]; rfl, by rw [← eL.out]; exact HO.out.1, HO.out.2.1⟩
              case measure => first | decide | (simp [intOf]; done) | (simp [intOf]; omega)
            · have p2 : (0 : Int) < (d : Int) := by omega
              have eL : Hid (bvs [] ++ [bb] = bvs (lkD m 1)) := (by rw [e2, dgs_step hd10 (fun h => hd0 h.2), show dgs 0 = [] from rfl, ← bvs_snoc _ _ hd10, hbb] : bvs [] ++ [bb] = bvs (lkD m 1))
              clear e1 e2 hbn hbb hd hM hM0
              clear hd0
              go_wp2_with (at_builtin; refine wpList_append_bytes _ rfl _ _ rfl w.heap.size _ (bvs []) rfl (HO.out.1.later ((Below.refl _ _).alloc (Nat.le_refl _) _)) (some ⟨wr.heap.size, 0, none⟩) 1 1 [bb] rfl rfl (Row.newl _ _ _ _ _ rfl) (fun h => by cases h) (Nat.le_refl _) (by first | (simp [bvs]; done) | (rw [bvs_len]; have := HO.out.2.2; omega)) (by have := HO.out.2.1.size; simp; omega) ?_)
              intro v3 w3 ho3 hg3
              have hb3 : Below w.heap.size w w3 := (HO.out.2.1.alloc HO.out.2.1.size _).grown hg3 (by have := HO.out.2.1.size; simp; omega) (own_block HO.out.1)
              rw [eL.out] at ho3
              obtain ⟨a3, c3, ez, -, -, -, -, -⟩ := ho3.open
              rw [bvs_len] at ez
              subst ez
              have FF : Hid _ := And.intro ho3 hb3
              clear ho3 hb3 hg3 eL HO
              go_wp2
              go_roundw
              case rel => exact ⟨1, a3, c3, by omega, rfl, rfl, FF.out.1, FF.out.2⟩
              case measure => first | decide | (simp [intOf]; done) | (simp [intOf]; omega)
          · have hl0 : 0 < (dgs M).length := by rcases Nat.eq_zero_or_pos (dgs M).length with h | h; exact absurd ((dgs_nil M).1 h) hM0; exact h
            have p1 : (0 : Int) < ((dgs M).length : Int) := by omega
            have p3 : ¬ (dgs M) = [] := fun h => by rw [h] at hl0; exact absurd hl0 (by decide)
            have eL : Hid (bvs (dgs M) ++ [bb] = bvs (lkD m 1)) := (by rw [e2, dgs_step hd10 (fun h => hM0 h.1), ← bvs_snoc _ _ hd10, hbb] : bvs (dgs M) ++ [bb] = bvs (lkD m 1))
            clear e1 e2 hbn hbb hd hM
            clear hM0
            go_wp2_with (at_builtin; refine wpList_append_bytes _ rfl _ _ rfl w.heap.size _ (bvs (dgs M)) rfl (HO.out.1.later ((Below.refl _ _).alloc (Nat.le_refl _) _)) (some ⟨wr.heap.size, 0, none⟩) 1 1 [bb] rfl rfl (Row.newl _ _ _ _ _ rfl) (fun h => by cases h) (Nat.le_refl _) (by first | (simp [bvs]; done) | (rw [bvs_len]; have := HO.out.2.2; omega)) (by have := HO.out.2.1.size; simp; omega) ?_)
            intro v3 w3 ho3 hg3
            have hb3 : Below w.heap.size w w3 := (HO.out.2.1.alloc HO.out.2.1.size _).grown hg3 (by have := HO.out.2.1.size; simp; omega) (own_block HO.out.1)
            rw [eL.out] at ho3
            obtain ⟨a3, c3, ez, -, -, -, -, -⟩ := ho3.open
            rw [bvs_len] at ez
            subst ez
            have FF : Hid _ := And.intro ho3 hb3
            clear ho3 hb3 hg3 eL HO
            go_wp2
            go_roundw
            case rel => exact ⟨1, a3, c3, by omega, rfl, rfl, FF.out.1, FF.out.2⟩
            case measure => first | decide | (simp [intOf]; done) | (simp [intOf]; omega)
        · have hq : m / 100 = 10 * (m / 1000) + m / 100 % 10 := by omega
          obtain ⟨d, hd⟩ : ∃ d, d = m / 100 % 10 := ⟨_, rfl⟩
          obtain ⟨M, hM⟩ : ∃ M, M = m / 1000 := ⟨_, rfl⟩
          have hd10 : d < 10 := by omega
          have e1 : lkD m 3 = dgs M := by unfold lkD; rw [if_neg (by omega), hM]
          rw [e1] at hO hlen ⊢
          rw [show unI 3 = 100 from rfl]
          have e2 : lkD m 2 = dgs (10 * M + d) := by unfold lkD; rw [if_neg (by omega), show 10 ^ 2 = 100 from rfl, hq, ← hM, ← hd]
          have t3 : (m : Int) / 100 % 10 = (d : Int) := by rw [hd]; omega
          have t4 : ((m : Int) / 100) % 10 = (d : Int) := t3
          obtain ⟨bb, hbb⟩ : ∃ bb : BitVec 8, bb = BitVec.ofNat 8 (48 + d) := ⟨_, rfl⟩
          have hbn : bb.toNat = 48 + d := by rw [hbb, BitVec.toNat_ofNat]; omega
          have x1 : IntKind.i64.wrap (48 + (d : Int)) = (bb.toNat : Int) := by rw [IntKind.wrap_i64]; omega
          have x2 : (48 : Int) + (d : Int) = (bb.toNat : Int) := by omega
          have x3 : IntKind.u8.wrap (bb.toNat : Int) = (bb.toNat : Int) := by rw [IntKind.wrap_u8]; omega
          have x4 : IntKind.u8.wrap (48 + (d : Int)) = (bb.toNat : Int) := by rw [IntKind.wrap_u8]; omega
          have HO : Hid _ := And.intro hO (And.intro hB hlen)
          clear hO hB hlen F0 hq
          by_cases hM0 : M = 0
          · rw [hM0] at HO e1 e2 ⊢
            rw [show dgs 0 = [] from rfl] at HO e1 ⊢
            rw [show ([] : List UInt8).length = 0 from rfl] at HO ⊢
            by_cases hd0 : d = 0
            · subst hd0
              have eL : Hid (([] : List UInt8) = lkD m 2) := (by rw [e2]; rfl : ([] : List UInt8) = lkD m 2)
              rw [show ((0 : Nat) : Int) = 0 from rfl] at t3 t4
              clear e1 e2 hbn hbb hd hM hM0 x1 x2 x3 x4
              go_wp2
              go_roundw
              case rel => exact ⟨2, a, c, by omega, rfl, by rw [← eL.out]; rfl, by rw [← eL.out]; exact HO.out.1, HO.out.2.1⟩
              case measure => first | decide | (simp [intOf]; done) | (simp [intOf]; omega)
            · have p2 : (0 : Int) < (d : Int) := by omega
              have eL : Hid (bvs [] ++ [bb] = bvs (lkD m 2)) := (by rw [e2, dgs_step hd10 (fun h => hd0 h.2), show dgs 0 = [] from rfl, ← bvs_snoc _ _ hd10, hbb] : bvs [] ++ [bb] = bvs (lkD m 2))
              clear e1 e2 hbn hbb hd hM hM0
              clear hd0
              go_wp2_with (at_builtin; refine wpList_append_bytes _ rfl _ _ rfl w.heap.size _ (bvs []) rfl (HO.out.1.later ((Below.refl _ _).alloc (Nat.le_refl _) _)) (some ⟨wr.heap.size, 0, none⟩) 1 1 [bb] rfl rfl (Row.newl _ _ _ _ _ rfl) (fun h => by cases h) (Nat.le_refl _) (by first | (simp [bvs]; done) | (rw [bvs_len]; have := HO.out.2.2; omega)) (by have := HO.out.2.1.size; simp; omega) ?_)
              intro v3 w3 ho3 hg3
              have hb3 : Below w.heap.size w w3 := (HO.out.2.1.alloc HO.out.2.1.size _).grown hg3 (by have := HO.out.2.1.size; simp; omega) (own_block HO.out.1)
              rw [eL.out] at ho3
              obtain ⟨a3, c3, ez, -, -, -, -, -⟩ := ho3.open
              rw [bvs_len] at ez
              subst ez
              have FF : Hid _ := And.intro ho3 hb3
              clear ho3 hb3 hg3 eL HO
              go_wp2
              go_roundw
              case rel => exact ⟨2, a3, c3, by omega, rfl, rfl, FF.out.1, FF.out.2⟩
              case measure => first | decide | (simp [intOf]; done) | (simp [intOf]; omega)
          · have hl0 : 0 < (dgs M).length := by rcases Nat.eq_zero_or_pos (dgs M).length with h | h; exact absurd ((dgs_nil M).1 h) hM0; exact h
            have p1 : (0 : Int) < ((dgs M).length : Int) := by omega
            have p3 : ¬ (dgs M) = [] := fun h => by rw [h] at hl0; exact absurd hl0 (by decide)
            have eL : Hid (bvs (dgs M) ++ [bb] = bvs (lkD m 2)) := (by rw [e2, dgs_step hd10 (fun h => hM0 h.1), ← bvs_snoc _ _ hd10, hbb] : bvs (dgs M) ++ [bb] = bvs (lkD m 2))
            clear e1 e2 hbn hbb hd hM
            clear hM0
            go_wp2_with (at_builtin; refine wpList_append_bytes _ rfl _ _ rfl w.heap.size _ (bvs (dgs M)) rfl (HO.out.1.later ((Below.refl _ _).alloc (Nat.le_refl _) _)) (some ⟨wr.heap.size, 0, none⟩) 1 1 [bb] rfl rfl (Row.newl _ _ _ _ _ rfl) (fun h => by cases h) (Nat.le_refl _) (by first | (simp [bvs]; done) | (rw [bvs_len]; have := HO.out.2.2; omega)) (by have := HO.out.2.1.size; simp; omega) ?_)
            intro v3 w3 ho3 hg3
            have hb3 : Below w.heap.size w w3 := (HO.out.2.1.alloc HO.out.2.1.size _).grown hg3 (by have := HO.out.2.1.size; simp; omega) (own_block HO.out.1)
            rw [eL.out] at ho3
            obtain ⟨a3, c3, ez, -, -, -, -, -⟩ := ho3.open
            rw [bvs_len] at ez
            subst ez
            have FF : Hid _ := And.intro ho3 hb3
            clear ho3 hb3 hg3 eL HO
            go_wp2
            go_roundw
            case rel => exact ⟨2, a3, c3, by omega, rfl, rfl, FF.out.1, FF.out.2⟩
            case measure => first | decide | (simp [intOf]; done) | (simp [intOf]; omega)
        · have hq : m / 1000 = 10 * (m / 10000) + m / 1000 % 10 := by omega
          obtain ⟨d, hd⟩ : ∃ d, d = m / 1000 % 10 := ⟨_, rfl⟩
          obtain ⟨M, hM⟩ : ∃ M, M = m / 10000 := ⟨_, rfl⟩
          have hd10 : d < 10 := by omega
          have e1 : lkD m 4 = dgs M := by unfold lkD; rw [if_neg (by omega), hM]
          rw [e1] at hO hlen ⊢
          rw [show unI 4 = 1000 from rfl]
          have e2 : lkD m 3 = dgs (10 * M + d) := by unfold lkD; rw [if_neg (by omega), show 10 ^ 3 = 1000 from rfl, hq, ← hM, ← hd]
          have t3 : (m : Int) / 1000 % 10 = (d : Int) := by rw [hd]; omega
          have t4 : ((m : Int) / 1000) % 10 = (d : Int) := t3
          obtain ⟨bb, hbb⟩ : ∃ bb : BitVec 8, bb = BitVec.ofNat 8 (48 + d) := ⟨_, rfl⟩
          have hbn : bb.toNat = 48 + d := by rw [hbb, BitVec.toNat_ofNat]; omega
          have x1 : IntKind.i64.wrap (48 + (d : Int)) = (bb.toNat : Int) := by rw [IntKind.wrap_i64]; omega
          have x2 : (48 : Int) + (d : Int) = (bb.toNat : Int) := by omega
          have x3 : IntKind.u8.wrap (bb.toNat : Int) = (bb.toNat : Int) := by rw [IntKind.wrap_u8]; omega
          have x4 : IntKind.u8.wrap (48 + (d : Int)) = (bb.toNat : Int) := by rw [IntKind.wrap_u8]; omega
          have HO : Hid _ := And.intro hO (And.intro hB hlen)
          clear hO hB hlen F0 hq
          by_cases hM0 : M = 0
          · rw [hM0] at HO e1 e2 ⊢
            rw [show dgs 0 = [] from rfl] at HO e1 ⊢
            rw [show ([] : List UInt8).length = 0 from rfl] at HO ⊢
            by_cases hd0 : d = 0
            · subst hd0
              have eL : Hid (([] : List UInt8) = lkD m 3) := (by rw [e2]; rfl : ([] : List UInt8) = lkD m 3)
              rw [show ((0 : Nat) : Int) = 0 from rfl] at t3 t4
              clear e1 e2 hbn hbb hd hM hM0 x1 x2 x3 x4
              go_wp2
              go_roundw
              case rel => exact ⟨3, a, c, by omega, rfl, by rw [← eL.out]; rfl, by rw [← eL.out]; exact HO.out.1, HO.out.2.1⟩
              case measure => first | decide | (simp [intOf]; done) | (simp [intOf]; omega)
            · have p2 : (0 : Int) < (d : Int) := by omega
              have eL : Hid (bvs [] ++ [bb] = bvs (lkD m 3)) := (by rw [e2, dgs_step hd10 (fun h => hd0 h.2), show dgs 0 = [] from rfl, ← bvs_snoc _ _ hd10, hbb] : bvs [] ++ [bb] = bvs (lkD m 3))
              clear e1 e2 hbn hbb hd hM hM0
              clear hd0
              go_wp2_with (at_builtin; refine wpList_append_bytes _ rfl _ _ rfl w.heap.size _ (bvs []) rfl (HO.out.1.later ((Below.refl _ _).alloc (Nat.le_refl _) _)) (some ⟨wr.heap.size, 0, none⟩) 1 1 [bb] rfl rfl (Row.newl _ _ _ _ _ rfl) (fun h => by cases h) (Nat.le_refl _) (by first | (simp [bvs]; done) | (rw [bvs_len]; have := HO.out.2.2; omega)) (by have := HO.out.2.1.size; simp; omega) ?_)
              intro v3 w3 ho3 hg3
              have hb3 : Below w.heap.size w w3 := (HO.out.2.1.alloc HO.out.2.1.size _).grown hg3 (by have := HO.out.2.1.size; simp; omega) (own_block HO.out.1)
              rw [eL.out] at ho3
              obtain ⟨a3, c3, ez, -, -, -, -, -⟩ := ho3.open
              rw [bvs_len] at ez
              subst ez
              have FF : Hid _ := And.intro ho3 hb3
              clear ho3 hb3 hg3 eL HO
              go_wp2
              go_roundw
              case rel => exact ⟨3, a3, c3, by omega, rfl, rfl, FF.out.1, FF.out.2⟩
              case measure => first | decide | (simp [intOf]; done) | (simp [intOf]; omega)
          · have hl0 : 0 < (dgs M).length := by rcases Nat.eq_zero_or_pos (dgs M).length with h | h; exact absurd ((dgs_nil M).1 h) hM0; exact h
            have p1 : (0 : Int) < ((dgs M).length : Int) := by omega
            have p3 : ¬ (dgs M) = [] := fun h => by rw [h] at hl0; exact absurd hl0 (by decide)
            have eL : Hid (bvs (dgs M) ++ [bb] = bvs (lkD m 3)) := (by rw [e2, dgs_step hd10 (fun h => hM0 h.1), ← bvs_snoc _ _ hd10, hbb] : bvs (dgs M) ++ [bb] = bvs (lkD m 3))
            clear e1 e2 hbn hbb hd hM
            clear hM0
            go_wp2_with (at_builtin; refine wpList_append_bytes _ rfl _ _ rfl w.heap.size _ (bvs (dgs M)) rfl (HO.out.1.later ((Below.refl _ _).alloc (Nat.le_refl _) _)) (some ⟨wr.heap.size, 0, none⟩) 1 1 [bb] rfl rfl (Row.newl _ _ _ _ _ rfl) (fun h => by cases h) (Nat.le_refl _) (by first | (simp [bvs]; done) | (rw [bvs_len]; have := HO.out.2.2; omega)) (by have := HO.out.2.1.size; simp; omega) ?_)
            intro v3 w3 ho3 hg3
            have hb3 : Below w.heap.size w w3 := (HO.out.2.1.alloc HO.out.2.1.size _).grown hg3 (by have := HO.out.2.1.size; simp; omega) (own_block HO.out.1)
            rw [eL.out] at ho3
            obtain ⟨a3, c3, ez, -, -, -, -, -⟩ := ho3.open
            rw [bvs_len] at ez
            subst ez
            have FF : Hid _ := And.intro ho3 hb3
            clear ho3 hb3 hg3 eL HO
            go_wp2
            go_roundw
            case rel => exact ⟨3, a3, c3, by omega, rfl, rfl, FF.out.1, FF.out.2⟩
            case measure => first | decide | (simp [intOf]; done) | (simp [intOf]; omega)
        · have hq : m / 10000 = 10 * (m / 100000) + m / 10000 % 10 := by omega
          obtain ⟨d, hd⟩ : ∃ d, d = m / 10000 % 10 := ⟨_, rfl⟩
          obtain ⟨M, hM⟩ : ∃ M, M = m / 100000 := ⟨_, rfl⟩
          have hd10 : d < 10 := by omega
          have e1 : lkD m 5 = dgs M := by unfold lkD; rw [if_neg (by omega), hM]
          rw [e1] at hO hlen ⊢
          rw [show unI 5 = 10000 from rfl]
          have e2 : lkD m 4 = dgs (10 * M + d) := by unfold lkD; rw [if_neg (by omega), show 10 ^ 4 = 10000 from rfl, hq, ← hM, ← hd]
          have t3 : (m : Int) / 10000 % 10 = (d : Int) := by rw [hd]; omega
          have t4 : ((m : Int) / 10000) % 10 = (d : Int) := t3
          obtain ⟨bb, hbb⟩ : ∃ bb : BitVec 8, bb = BitVec.ofNat 8 (48 + d) := ⟨_, rfl⟩
          have hbn : bb.toNat = 48 + d := by rw [hbb, BitVec.toNat_ofNat]; omega
          have x1 : IntKind.i64.wrap (48 + (d : Int)) = (bb.toNat : Int) := by rw [IntKind.wrap_i64]; omega
          have x2 : (48 : Int) + (d : Int) = (bb.toNat : Int) := by omega
          have x3 : IntKind.u8.wrap (bb.toNat : Int) = (bb.toNat : Int) := by rw [IntKind.wrap_u8]; omega
          have x4 : IntKind.u8.wrap (48 + (d : Int)) = (bb.toNat : Int) := by rw [IntKind.wrap_u8]; omega
          have HO : Hid _ := And.intro hO (And.intro hB hlen)
          clear hO hB hlen F0 hq
          by_cases hM0 : M = 0
          · rw [hM0] at HO e1 e2 ⊢
            rw [show dgs 0 = [] from rfl] at HO e1 ⊢
            rw [show ([] : List UInt8).length = 0 from rfl] at HO ⊢
            by_cases hd0 : d = 0
            · subst hd0
              have eL : Hid (([] : List UInt8) = lkD m 4) := (by rw [e2]; rfl : ([] : List UInt8) = lkD m 4)
              rw [show ((0 : Nat) : Int) = 0 from rfl] at t3 t4
              clear e1 e2 hbn hbb hd hM hM0 x1 x2 x3 x4
              go_wp2
              go_roundw
              case rel => exact ⟨4, a, c, by omega, rfl, by rw [← eL.out]; rfl, by rw [← eL.out]; exact HO.out.1, HO.out.2.1⟩
              case measure => first | decide | (simp [intOf]; done) | (simp [intOf]; omega)
            · have p2 : (0 : Int) < (d : Int) := by omega
              have eL : Hid (bvs [] ++ [bb] = bvs (lkD m 4)) := (by rw [e2, dgs_step hd10 (fun h => hd0 h.2), show dgs 0 = [] from rfl, ← bvs_snoc _ _ hd10, hbb] : bvs [] ++ [bb] = bvs (lkD m 4))
              clear e1 e2 hbn hbb hd hM hM0
              clear hd0
              go_wp2_with (at_builtin; refine wpList_append_bytes _ rfl _ _ rfl w.heap.size _ (bvs []) rfl (HO.out.1.later ((Below.refl _ _).alloc (Nat.le_refl _) _)) (some ⟨wr.heap.size, 0, none⟩) 1 1 [bb] rfl rfl (Row.newl _ _ _ _ _ rfl) (fun h => by cases h) (Nat.le_refl _) (by first | (simp [bvs]; done) | (rw [bvs_len]; have := HO.out.2.2; omega)) (by have := HO.out.2.1.size; simp; omega) ?_)
              intro v3 w3 ho3 hg3
              have hb3 : Below w.heap.size w w3 := (HO.out.2.1.alloc HO.out.2.1.size _).grown hg3 (by have := HO.out.2.1.size; simp; omega) (own_block HO.out.1)
              rw [eL.out] at ho3
              obtain ⟨a3, c3, ez, -, -, -, -, -⟩ := ho3.open
              rw [bvs_len] at ez
              subst ez
              have FF : Hid _ := And.intro ho3 hb3
              clear ho3 hb3 hg3 eL HO
              go_wp2
              go_roundw
              case rel => exact ⟨4, a3, c3, by omega, rfl, rfl, FF.out.1, FF.out.2⟩
              case measure => first | decide | (simp [intOf]; done) | (simp [intOf]; omega)
          · have hl0 : 0 < (dgs M).length := by rcases Nat.eq_zero_or_pos (dgs M).length with h | h; exact absurd ((dgs_nil M).1 h) hM0; exact h
            have p1 : (0 : Int) < ((dgs M).length : Int) := by omega
            have p3 : ¬ (dgs M) = [] := fun h => by rw [h] at hl0; exact absurd hl0 (by decide)
            have eL : Hid (bvs (dgs M) ++ [bb] = bvs (lkD m 4)) := (by rw [e2, dgs_step hd10 (fun h => hM0 h.1), ← bvs_snoc _ _ hd10, hbb] : bvs (dgs M) ++ [bb] = bvs (lkD m 4))
            clear e1 e2 hbn hbb hd hM
            clear hM0
            go_wp2_with (at_builtin; refine wpList_append_bytes _ rfl _ _ rfl w.heap.size _ (bvs (dgs M)) rfl (HO.out.1.later ((Below.refl _ _).alloc (Nat.le_refl _) _)) (some ⟨wr.heap.size, 0, none⟩) 1 1 [bb] rfl rfl (Row.newl _ _ _ _ _ rfl) (fun h => by cases h) (Nat.le_refl _) (by first | (simp [bvs]; done) | (rw [bvs_len]; have := HO.out.2.2; omega)) (by have := HO.out.2.1.size; simp; omega) ?_)
            intro v3 w3 ho3 hg3
            have hb3 : Below w.heap.size w w3 := (HO.out.2.1.alloc HO.out.2.1.size _).grown hg3 (by have := HO.out.2.1.size; simp; omega) (own_block HO.out.1)
            rw [eL.out] at ho3
            obtain ⟨a3, c3, ez, -, -, -, -, -⟩ := ho3.open
            rw [bvs_len] at ez
            subst ez
            have FF : Hid _ := And.intro ho3 hb3
            clear ho3 hb3 hg3 eL HO
            go_wp2
            go_roundw
            case rel => exact ⟨4, a3, c3, by omega, rfl, rfl, FF.out.1, FF.out.2⟩
            case measure => first | decide | (simp [intOf]; done) | (simp [intOf]; omega)
        · have hq : m / 100000 = 10 * (m / 1000000) + m / 100000 % 10 := by omega
          obtain ⟨d, hd⟩ : ∃ d, d = m / 100000 % 10 := ⟨_, rfl⟩
          obtain ⟨M, hM⟩ : ∃ M, M = m / 1000000 := ⟨_, rfl⟩
          have hd10 : d < 10 := by omega
          have e1 : lkD m 6 = dgs M := by unfold lkD; rw [if_neg (by omega), hM]
          rw [e1] at hO hlen ⊢
          rw [show unI 6 = 100000 from rfl]
          have e2 : lkD m 5 = dgs (10 * M + d) := by unfold lkD; rw [if_neg (by omega), show 10 ^ 5 = 100000 from rfl, hq, ← hM, ← hd]
          have t3 : (m : Int) / 100000 % 10 = (d : Int) := by rw [hd]; omega
          have t4 : ((m : Int) / 100000) % 10 = (d : Int) := t3
          obtain ⟨bb, hbb⟩ : ∃ bb : BitVec 8, bb = BitVec.ofNat 8 (48 + d) := ⟨_, rfl⟩
          have hbn : bb.toNat = 48 + d := by rw [hbb, BitVec.toNat_ofNat]; omega
          have x1 : IntKind.i64.wrap (48 + (d : Int)) = (bb.toNat : Int) := by rw [IntKind.wrap_i64]; omega
          have x2 : (48 : Int) + (d : Int) = (bb.toNat : Int) := by omega
          have x3 : IntKind.u8.wrap (bb.toNat : Int) = (bb.toNat : Int) := by rw [IntKind.wrap_u8]; omega
          have x4 : IntKind.u8.wrap (48 + (d : Int)) = (bb.toNat : Int) := by rw [IntKind.wrap_u8]; omega
          have HO : Hid _ := And.intro hO (And.intro hB hlen)
          clear hO hB hlen F0 hq
          by_cases hM0 : M = 0
          · rw [hM0] at HO e1 e2 ⊢
            rw [show dgs 0 = [] from rfl] at HO e1 ⊢
            rw [show ([] : List UInt8).length = 0 from rfl] at HO ⊢
            by_cases hd0 : d = 0
            · subst hd0
              have eL : Hid (([] : List UInt8) = lkD m 5) := (by rw [e2]; rfl : ([] : List UInt8) = lkD m 5)
              rw [show ((0 : Nat) : Int) = 0 from rfl] at t3 t4
              clear e1 e2 hbn hbb hd hM hM0 x1 x2 x3 x4
              go_wp2
              go_roundw
              case rel => exact ⟨5, a, c, by omega, rfl, by rw [← eL.out]; rfl, by rw [← eL.out]; exact HO.out.1, HO.out.2.1⟩
              case measure => first | decide | (simp [intOf]; done) | (simp [intOf]; omega)
            · have p2 : (0 : Int) < (d : Int) := by omega
              have eL : Hid (bvs [] ++ [bb] = bvs (lkD m 5)) := (by rw [e2, dgs_step hd10 (fun h => hd0 h.2), show dgs 0 = [] from rfl, ← bvs_snoc _ _ hd10, hbb] : bvs [] ++ [bb] = bvs (lkD m 5))
              clear e1 e2 hbn hbb hd hM hM0
              clear hd0
              go_wp2_with (at_builtin; refine wpList_append_bytes _ rfl _ _ rfl w.heap.size _ (bvs []) rfl (HO.out.1.later ((Below.refl _ _).alloc (Nat.le_refl _) _)) (some ⟨wr.heap.size, 0, none⟩) 1 1 [bb] rfl rfl (Row.newl _ _ _ _ _ rfl) (fun h => by cases h) (Nat.le_refl _) (by first | (simp [bvs]; done) | (rw [bvs_len]; have := HO.out.2.2; omega)) (by have := HO.out.2.1.size; simp; omega) ?_)
              intro v3 w3 ho3 hg3
              have hb3 : Below w.heap.size w w3 := (HO.out.2.1.alloc HO.out.2.1.size _).grown hg3 (by have := HO.out.2.1.size; simp; omega) (own_block HO.out.1)
              rw [eL.out] at ho3
              obtain ⟨a3, c3, ez, -, -, -, -, -⟩ := ho3.open
              rw [bvs_len] at ez
              subst ez
              have FF : Hid _ := And.intro ho3 hb3
              clear ho3 hb3 hg3 eL HO
              go_wp2
              go_roundw
              case rel => exact ⟨5, a3, c3, by omega, rfl, rfl, FF.out.1, FF.out.2⟩
              case measure => first | decide | (simp [intOf]; done) | (simp [intOf]; omega)
          · have hl0 : 0 < (dgs M).length := by rcases Nat.eq_zero_or_pos (dgs M).length with h | h; exact absurd ((dgs_nil M).1 h) hM0; exact h
            have p1 : (0 : Int) < ((dgs M).length : Int) := by omega
            have p3 : ¬ (dgs M) = [] := fun h => by rw [h] at hl0; exact absurd hl0 (by decide)
            have eL : Hid (bvs (dgs M) ++ [bb] = bvs (lkD m 5)) := (by rw [e2, dgs_step hd10 (fun h => hM0 h.1), ← bvs_snoc _ _ hd10, hbb] : bvs (dgs M) ++ [bb] = bvs (lkD m 5))
            clear e1 e2 hbn hbb hd hM
            clear hM0
            go_wp2_with (at_builtin; refine wpList_append_bytes _ rfl _ _ rfl w.heap.size _ (bvs (dgs M)) rfl (HO.out.1.later ((Below.refl _ _).alloc (Nat.le_refl _) _)) (some ⟨wr.heap.size, 0, none⟩) 1 1 [bb] rfl rfl (Row.newl _ _ _ _ _ rfl) (fun h => by cases h) (Nat.le_refl _) (by first | (simp [bvs]; done) | (rw [bvs_len]; have := HO.out.2.2; omega)) (by have := HO.out.2.1.size; simp; omega) ?_)
            intro v3 w3 ho3 hg3
            have hb3 : Below w.heap.size w w3 := (HO.out.2.1.alloc HO.out.2.1.size _).grown hg3 (by have := HO.out.2.1.size; simp; omega) (own_block HO.out.1)
            rw [eL.out] at ho3
            obtain ⟨a3, c3, ez, -, -, -, -, -⟩ := ho3.open
            rw [bvs_len] at ez
            subst ez
            have FF : Hid _ := And.intro ho3 hb3
            clear ho3 hb3 hg3 eL HO
            go_wp2
            go_roundw
            case rel => exact ⟨5, a3, c3, by omega, rfl, rfl, FF.out.1, FF.out.2⟩
            case measure => first | decide | (simp [intOf]; done) | (simp [intOf]; omega)
        · have hq : m / 1000000 = 10 * (m / 10000000) + m / 1000000 % 10 := by omega
          obtain ⟨d, hd⟩ : ∃ d, d = m / 1000000 % 10 := ⟨_, rfl⟩
          obtain ⟨M, hM⟩ : ∃ M, M = m / 10000000 := ⟨_, rfl⟩
          have hd10 : d < 10 := by omega
          have e1 : lkD m 7 = dgs M := by unfold lkD; rw [if_neg (by omega), hM]
          rw [e1] at hO hlen ⊢
          rw [show unI 7 = 1000000 from rfl]
          have e2 : lkD m 6 = dgs (10 * M + d) := by unfold lkD; rw [if_neg (by omega), show 10 ^ 6 = 1000000 from rfl, hq, ← hM, ← hd]
          have t3 : (m : Int) / 1000000 % 10 = (d : Int) := by rw [hd]; omega
          have t4 : ((m : Int) / 1000000) % 10 = (d : Int) := t3
          obtain ⟨bb, hbb⟩ : ∃ bb : BitVec 8, bb = BitVec.ofNat 8 (48 + d) := ⟨_, rfl⟩
          have hbn : bb.toNat = 48 + d := by rw [hbb, BitVec.toNat_ofNat]; omega
          have x1 : IntKind.i64.wrap (48 + (d : Int)) = (bb.toNat : Int) := by rw [IntKind.wrap_i64]; omega
          have x2 : (48 : Int) + (d : Int) = (bb.toNat : Int) := by omega
          have x3 : IntKind.u8.wrap (bb.toNat : Int) = (bb.toNat : Int) := by rw [IntKind.wrap_u8]; omega
          have x4 : IntKind.u8.wrap (48 + (d : Int)) = (bb.toNat : Int) := by rw [IntKind.wrap_u8]; omega
          have HO : Hid _ := And.intro hO (And.intro hB hlen)
          clear hO hB hlen F0 hq
          by_cases hM0 : M = 0
          · rw [hM0] at HO e1 e2 ⊢
            rw [show dgs 0 = [] from rfl] at HO e1 ⊢
            rw [show ([] : List UInt8).length = 0 from rfl] at HO ⊢
            by_cases hd0 : d = 0
            · subst hd0
              have eL : Hid (([] : List UInt8) = lkD m 6) := (by rw [e2]; rfl : ([] : List UInt8) = lkD m 6)
              rw [show ((0 : Nat) : Int) = 0 from rfl] at t3 t4
              clear e1 e2 hbn hbb hd hM hM0 x1 x2 x3 x4
              go_wp2
              go_roundw
              case rel => exact ⟨6, a, c, by omega, rfl, by rw [← eL.out]; rfl, by rw [← eL.out]; exact HO.out.1, HO.out.2.1⟩
              case measure => first | decide | (simp [intOf]; done) | (simp [intOf]; omega)
            · have p2 : (0 : Int) < (d : Int) := by omega
              have eL : Hid (bvs [] ++ [bb] = bvs (lkD m 6)) := (by rw [e2, dgs_step hd10 (fun h => hd0 h.2), show dgs 0 = [] from rfl, ← bvs_snoc _ _ hd10, hbb] : bvs [] ++ [bb] = bvs (lkD m 6))
              clear e1 e2 hbn hbb hd hM hM0
              clear hd0
              go_wp2_with (at_builtin; refine wpList_append_bytes _ rfl _ _ rfl w.heap.size _ (bvs []) rfl (HO.out.1.later ((Below.refl _ _).alloc (Nat.le_refl _) _)) (some ⟨wr.heap.size, 0, none⟩) 1 1 [bb] rfl rfl (Row.newl _ _ _ _ _ rfl) (fun h => by cases h) (Nat.le_refl _) (by first | (simp [bvs]; done) | (rw [bvs_len]; have := HO.out.2.2; omega)) (by have := HO.out.2.1.size; simp; omega) ?_)
              intro v3 w3 ho3 hg3
              have hb3 : Below w.heap.size w w3 := (HO.out.2.1.alloc HO.out.2.1.size _).grown hg3 (by have := HO.out.2.1.size; simp; omega) (own_block HO.out.1)
              rw [eL.out] at ho3
              obtain ⟨a3, c3, ez, -, -, -, -, -⟩ := ho3.open
              rw [bvs_len] at ez
              subst ez
              have FF : Hid _ := And.intro ho3 hb3
              clear ho3 hb3 hg3 eL HO
              go_wp2
              go_roundw
              case rel => exact ⟨6, a3, c3, by omega, rfl, rfl, FF.out.1, FF.out.2⟩
              case measure => first | decide | (simp [intOf]; done) | (simp [intOf]; omega)
          · have hl0 : 0 < (dgs M).length := by rcases Nat.eq_zero_or_pos (dgs M).length with h | h; exact absurd ((dgs_nil M).1 h) hM0; exact h
            have p1 : (0 : Int) < ((dgs M).length : Int) := by omega
            have p3 : ¬ (dgs M) = [] := fun h => by rw [h] at hl0; exact absurd hl0 (by decide)
            have eL : Hid (bvs (dgs M) ++ [bb] = bvs (lkD m 6)) := (by rw [e2, dgs_step hd10 (fun h => hM0 h.1), ← bvs_snoc _ _ hd10, hbb] : bvs (dgs M) ++ [bb] = bvs (lkD m 6))
            clear e1 e2 hbn hbb hd hM
            clear hM0
            go_wp2_with (at_builtin; refine wpList_append_bytes _ rfl _ _ rfl w.heap.size _ (bvs (dgs M)) rfl (HO.out.1.later ((Below.refl _ _).alloc (Nat.le_refl _) _)) (some ⟨wr.heap.size, 0, none⟩) 1 1 [bb] rfl rfl (Row.newl _ _ _ _ _ rfl) (fun h => by cases h) (Nat.le_refl _) (by first | (simp [bvs]; done) | (rw [bvs_len]; have := HO.out.2.2; omega)) (by have := HO.out.2.1.size; simp; omega) ?_)
            intro v3 w3 ho3 hg3
            have hb3 : Below w.heap.size w w3 := (HO.out.2.1.alloc HO.out.2.1.size _).grown hg3 (by have := HO.out.2.1.size; simp; omega) (own_block HO.out.1)
            rw [eL.out] at ho3
            obtain ⟨a3, c3, ez, -, -, -, -, -⟩ := ho3.open
            rw [bvs_len] at ez
            subst ez
            have FF : Hid _ := And.intro ho3 hb3
            clear ho3 hb3 hg3 eL HO
            go_wp2
            go_roundw
            case rel => exact ⟨6, a3, c3, by omega, rfl, rfl, FF.out.1, FF.out.2⟩
            case measure => first | decide | (simp [intOf]; done) | (simp [intOf]; omega)
        · have hq : m / 10000000 = 10 * (m / 100000000) + m / 10000000 % 10 := by omega
          obtain ⟨d, hd⟩ : ∃ d, d = m / 10000000 % 10 := ⟨_, rfl⟩
          obtain ⟨M, hM⟩ : ∃ M, M = m / 100000000 := ⟨_, rfl⟩
          have hd10 : d < 10 := by omega
          have e1 : lkD m 8 = dgs M := by unfold lkD; rw [if_neg (by omega), hM]
          rw [e1] at hO hlen ⊢
          rw [show unI 8 = 10000000 from rfl]
          have e2 : lkD m 7 = dgs (10 * M + d) := by unfold lkD; rw [if_neg (by omega), show 10 ^ 7 = 10000000 from rfl, hq, ← hM, ← hd]
          have t3 : (m : Int) / 10000000 % 10 = (d : Int) := by rw [hd]; omega
          have t4 : ((m : Int) / 10000000) % 10 = (d : Int) := t3
          obtain ⟨bb, hbb⟩ : ∃ bb : BitVec 8, bb = BitVec.ofNat 8 (48 + d) := ⟨_, rfl⟩
          have hbn : bb.toNat = 48 + d := by rw [hbb, BitVec.toNat_ofNat]; omega
          have x1 : IntKind.i64.wrap (48 + (d : Int)) = (bb.toNat : Int) := by rw [IntKind.wrap_i64]; omega
          have x2 : (48 : Int) + (d : Int) = (bb.toNat : Int) := by omega
          have x3 : IntKind.u8.wrap (bb.toNat : Int) = (bb.toNat : Int) := by rw [IntKind.wrap_u8]; omega
          have x4 : IntKind.u8.wrap (48 + (d : Int)) = (bb.toNat : Int) := by rw [IntKind.wrap_u8]; omega
          have HO : Hid _ := And.intro hO (And.intro hB hlen)
          clear hO hB hlen F0 hq
          by_cases hM0 : M = 0
          · rw [hM0] at HO e1 e2 ⊢
            rw [show dgs 0 = [] from rfl] at HO e1 ⊢
            rw [show ([] : List UInt8).length = 0 from rfl] at HO ⊢
            by_cases hd0 : d = 0
            · subst hd0
              have eL : Hid (([] : List UInt8) = lkD m 7) := (by rw [e2]; rfl : ([] : List UInt8) = lkD m 7)
              rw [show ((0 : Nat) : Int) = 0 from rfl] at t3 t4
              clear e1 e2 hbn hbb hd hM hM0 x1 x2 x3 x4
              go_wp2
              go_roundw
              case rel => exact ⟨7, a, c, by omega, rfl, by rw [← eL.out]; rfl, by rw [← eL.out]; exact HO.out.1, HO.out.2.1⟩
              case measure => first | decide | (simp [intOf]; done) | (simp [intOf]; omega)
            · have p2 : (0 : Int) < (d : Int) := by omega
              have eL : Hid (bvs [] ++ [bb] = bvs (lkD m 7)) := (by rw [e2, dgs_step hd10 (fun h => hd0 h.2), show dgs 0 = [] from rfl, ← bvs_snoc _ _ hd10, hbb] : bvs [] ++ [bb] = bvs (lkD m 7))
              clear e1 e2 hbn hbb hd hM hM0
              clear hd0
              go_wp2_with (at_builtin; refine wpList_append_bytes _ rfl _ _ rfl w.heap.size _ (bvs []) rfl (HO.out.1.later ((Below.refl _ _).alloc (Nat.le_refl _) _)) (some ⟨wr.heap.size, 0, none⟩) 1 1 [bb] rfl rfl (Row.newl _ _ _ _ _ rfl) (fun h => by cases h) (Nat.le_refl _) (by first | (simp [bvs]; done) | (rw [bvs_len]; have := HO.out.2.2; omega)) (by have := HO.out.2.1.size; simp; omega) ?_)
              intro v3 w3 ho3 hg3
              have hb3 : Below w.heap.size w w3 := (HO.out.2.1.alloc HO.out.2.1.size _).grown hg3 (by have := HO.out.2.1.size; simp; omega) (own_block HO.out.1)
              rw [eL.out] at ho3
              obtain ⟨a3, c3, ez, -, -, -, -, -⟩ := ho3.open
              rw [bvs_len] at ez
              subst ez
              have FF : Hid _ := And.intro ho3 hb3
              clear ho3 hb3 hg3 eL HO
              go_wp2
              go_roundw
              case rel => exact ⟨7, a3, c3, by omega, rfl, rfl, FF.out.1, FF.out.2⟩
              case measure => first | decide | (simp [intOf]; done) | (simp [intOf]; omega)
          · exact absurd (by omega : M = 0) hM0
end Go.Proofs.YtligmiajlbjecaaDoor

