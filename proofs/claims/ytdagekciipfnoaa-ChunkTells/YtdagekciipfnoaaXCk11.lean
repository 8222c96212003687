/- slices.Concat of bytes. -/
import Derived.Test.YtdagekciipfnoaaXCk10
namespace Go.Proofs.Ytdagekciipfnoaa
open Go.RowKit
set_option linter.unusedVariables false
set_option linter.unusedSimpArgs false
set_option maxRecDepth 4000

theorem flat_take {α : Type} (ls : List (List α)) (k : Nat) (h : k < ls.length) : (ls.take (k + 1)).flatten = (ls.take k).flatten ++ ls[k] := by
  rw [List.take_succ_eq_append_getElem h, List.flatten_append]; simp
theorem flat_take_le {α : Type} (ls : List (List α)) (k : Nat) : (ls.take k).flatten.length ≤ ls.flatten.length := by
  have : ls.flatten = (ls.take k).flatten ++ (ls.drop k).flatten := by rw [← List.flatten_append, List.take_append_drop]
  rw [this, List.length_append]; omega
/-- how many bytes the first k have -/
def flen (ls : List (List (BitVec 8))) (k : Nat) : Nat := (ls.take k).flatten.length
set_option maxHeartbeats 4000000 in
theorem concat_any (d : Nat) (ls : List (List (BitVec 8))) (vs : List Value) (w : World) (hD : Blk w d 22 vs) (hE : ∀ (k : Nat) (h : k < ls.length), ∃ v, vs[k]? = some v ∧ Own w 0 v ls[k]) (hl : ls.length ≤ 1000) (hm : ls.flatten.length ≤ 1000000) :
    Calls Try.prog 27 #[.slice (some ⟨d, 0, none⟩) ls.length ls.length] w fun e w' => ∃ z, e = .returned z ∧ Own w' w.heap.size z ls.flatten ∧ Below w.heap.size w w' := by
  have HE : Hid (∀ (k : Nat) (h : k < ls.length), ∃ a c, w.cell? ⟨d, k, none⟩ = some (.slice a ls[k].length c) ∧ Row w a ls[k] ∧ (a = none → c = 0) ∧ ls[k].length ≤ c) := fun k h => by
    obtain ⟨v, hv, ho⟩ := hE k h
    obtain ⟨a, c, rfl, h1, -, h2, h3, -⟩ := ho.open
    exact ⟨a, c, by rw [blk_at hD k, hv], h2, h3, h1⟩
  have HD : Hid _ := And.intro hD trivial
  clear hE hD
  have HG : Hid (∀ n W, n ≤ 1000000 → Calls Try.prog 42 #[.slice none 0 0, .int .i64 ((n : Nat) : Int)] W fun e w' => ∃ z, e = .returned z ∧ Own w' W.heap.size z [] ∧ Below W.heap.size W w') := fun n W h => growN_any n W h
  go_enter Try.func27, Try.ntmps27
  go_wp2_with fail
  go_loopw [3, 11] (fun sv i wr => ∃ k : Nat, k ≤ ls.length ∧ i = .int .i64 k ∧ sv = .int .i64 (flen ls k : Nat) ∧ wr = w) (fun _ i _ => ls.length - (intOf i).toNat)
  case atStart => exact ⟨0, by omega, rfl, rfl, rfl⟩
  case round =>
    obtain ⟨k, hk, rfl, rfl, hwr⟩ := hrel
    obtain rfl := hwr.symm
    (try clear hwr)
    by_cases hlt : k < ls.length
    · obtain ⟨a, c, c1, -, -, -⟩ := HE.out k hlt
      have hfl := flat_take ls k hlt
      have hle1 := flat_take_le ls (k + 1)
      rw [hfl, List.length_append] at hle1
      have hln : flen ls (k + 1) = flen ls k + ls[k].length := by unfold flen; rw [hfl, List.length_append]
      have hle2 : flen ls k + ls[k].length ≤ 1000000 := by unfold flen; omega
      clear hle1
      have q1 : (k : Int) < (ls.length : Int) := by omega
      have HF : Hid _ := And.intro hln trivial
      clear hfl hln
      generalize ls[k] = lk at *
      generalize flen ls k = acc at *
      have q2 : (acc : Int) + (lk.length : Int) ≤ 1000000 := by omega
      have q3 : ¬ ((acc : Int) + (lk.length : Int) < 0) := by omega
      clear hle2
      go_wp2
      go_roundw
      case rel => exact ⟨k + 1, by omega, by go_num, by rw [HF.out.1]; go_num, by first | rfl | trivial⟩
      case measure => simp [intOf]; omega
    · obtain rfl : k = ls.length := by omega
      have hfe : flen ls ls.length ≤ 1000000 := by unfold flen; rw [List.take_length]; exact hm
      have NG : Hid _ := HG.out (flen ls ls.length) w hfe
      generalize flen ls ls.length = T at *
      go_wp2_with fail
      refine (Calls.mono NG.out) ?_
      rintro e w2 ⟨z, rfl, o2, b2⟩
      have O2 : Hid _ := And.intro o2 b2
      clear NG HG o2 b2
      go_wp2_with fail
      go_loopw [6, 27] (fun ov i wr => ∃ k : Nat, k ≤ ls.length ∧ i = .int .i64 k ∧ Own wr w.heap.size ov (ls.take k).flatten ∧ Below w.heap.size w wr) (fun _ i _ => ls.length - (intOf i).toNat)
      case atStart => exact ⟨0, by omega, rfl, O2.out.1, O2.out.2⟩
      case round =>
        clear O2
        obtain ⟨k, hk, rfl, ho, hb⟩ := hrel
        by_cases hlt : k < ls.length
        · obtain ⟨a, c, c0, g3, hnil, g2⟩ := HE.out k hlt
          have c1 : wr.cell? ⟨d, k, none⟩ = some (.slice a ls[k].length c) := by
            rw [blk_at (HD.out.1.laterB hb) k, ← blk_at HD.out.1 k]
            exact c0
          have hr := g3.later hb
          have hfl := flat_take ls k hlt
          have hle1 := flat_take_le ls (k + 1)
          rw [hfl, List.length_append] at hle1
          have q1 : (k : Int) < (ls.length : Int) := by omega
          have HF : Hid _ := And.intro ho (And.intro hr (And.intro hb hfl))
          clear ho hr hb hfl g3 HE c0 HD
          generalize ls[k] = lk at *
          generalize (ls.take k).flatten = acc at *
          go_wp2_with (at_builtin; refine wpList_append_bytes _ rfl _ _ rfl w.heap.size u6 acc rfl HF.out.1 a lk.length c lk rfl rfl HF.out.2.1 hnil g2 (by omega) (Below.size HF.out.2.2.1) ?_)
          intro v' w' ho' hg'
          have hb' : Below w.heap.size w w' := (HF.out.2.2.1).grown hg' (Below.size HF.out.2.2.1) (own_block HF.out.1)
          have F : Hid _ := And.intro ho' hb'
          rw [← HF.out.2.2.2] at F
          clear ho' hg' hb' HF c1
          go_wp2
          go_roundw
          case rel => exact ⟨k + 1, by omega, by go_num, F.out.1, F.out.2⟩
          case measure => simp [intOf]; omega
        · obtain rfl : k = ls.length := by omega
          rw [List.take_length] at ho
          have F : Hid _ := And.intro ho hb
          clear ho hb HE
          go_wp2
          go_ret
          exact ⟨_, rfl, F.out.1, F.out.2⟩
end Go.Proofs.Ytdagekciipfnoaa

