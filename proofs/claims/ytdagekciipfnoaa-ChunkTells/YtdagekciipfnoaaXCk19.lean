/- An image that is refused; the bytes of a piece. -/
import Derived.Test.YtdagekciipfnoaaXCk18
namespace Go.Proofs.Ytdagekciipfnoaa
open Go.RowKit Go.Shelf
set_option linter.unusedVariables false
set_option linter.unusedSimpArgs false
set_option maxRecDepth 4000

/-- an image that is refused -/
theorem split_no (id : Int) (a : Option Addr) (cap : Nat) (b : List (BitVec 8)) (s : Int) (w : World) (h : ¬ (idB id = true ∧ 1 ≤ s ∧ s ≤ 4096 ∧ b.length ≤ 65536 ∧ npc b.length s.toNat ≤ 256)) :
    Calls Try.prog 7 #[.int .i64 id, .slice a b.length cap, .int .i64 s] w fun e w' => ∃ E : Int, e = .returned (.tuple #[.slice none 0 0, .int .i64 E]) ∧ (E == 0) = false ∧ w' = w := by
  have HI : Hid _ := isId_any id w
  cases hid : idB id with
  | false =>
    rw [hid] at HI
    go_enter Try.func7, Try.ntmps7
    go_wp2_with fail
    refine (Calls.mono HI.out) ?_
    rintro e _ ⟨rfl, rfl⟩
    clear HI h hid
    go_wp2
    go_ret2
    exact ⟨1, rfl, rfl, rfl⟩
  | true =>
    rw [hid] at HI
    by_cases h1 : s < 1
    · clear h
      go_enter Try.func7, Try.ntmps7
      go_wp2_with fail
      refine (Calls.mono HI.out) ?_
      rintro e _ ⟨rfl, rfl⟩
      clear HI hid
      go_wp2
      go_ret2
      exact ⟨1, rfl, rfl, rfl⟩
    · by_cases h2 : s > 4096
      · clear h
        go_enter Try.func7, Try.ntmps7
        go_wp2_with fail
        refine (Calls.mono HI.out) ?_
        rintro e _ ⟨rfl, rfl⟩
        clear HI hid
        go_wp2
        go_ret2
        exact ⟨1, rfl, rfl, rfl⟩
      · by_cases h3 : b.length > 65536
        · have h3' : (b.length : Int) > 65536 := by omega
          clear h
          go_enter Try.func7, Try.ntmps7
          go_wp2_with fail
          refine (Calls.mono HI.out) ?_
          rintro e _ ⟨rfl, rfl⟩
          clear HI hid
          go_wp2
          go_ret2
          exact ⟨3, rfl, rfl, rfl⟩
        · obtain ⟨n, rfl⟩ : ∃ n : Nat, s = n := ⟨s.toNat, by omega⟩
          have h4 : ¬ npc b.length n ≤ 256 := fun hn => h ⟨hid, by omega, by omega, by omega, by rw [Int.toNat_natCast]; exact hn⟩
          have HP : Hid _ := pieces_any b.length n (by omega) (by omega) (by omega) w
          have h3' : ¬ (b.length : Int) > 65536 := by omega
          have h4' : ((npc b.length n : Nat) : Int) > 256 := by omega
          clear h h3 h4
          generalize npc b.length n = N at *
          go_enter Try.func7, Try.ntmps7
          go_wp2_with fail
          refine (Calls.mono HI.out) ?_
          rintro e _ ⟨rfl, rfl⟩
          clear HI hid
          go_wp2_with fail
          refine (Calls.mono HP.out) ?_
          rintro e _ ⟨rfl, rfl⟩
          clear HP
          go_wp2
          go_ret2
          exact ⟨3, rfl, rfl, rfl⟩
/-- two bytes of a number up to 256 -/
theorem be2_small : ∀ n : Fin 257, (be 2 (BitVec.ofInt 64 (n.val : Int))) = [BitVec.ofNat 8 (n.val / 256), BitVec.ofNat 8 (n.val % 256)] := by decide +kernel
theorem piece_bytes {id : Int} {b : List (BitVec 8)} {s i : Nat} (hi : i < 256) (hn : npc b.length s ≤ 256) : bt (pieceI id b s i) 8 = 0 ∧ bt (pieceI id b s i) 9 = i ∧ bt (pieceI id b s i) 10 = ((npc b.length s / 256 : Nat) : Int) ∧ bt (pieceI id b s i) 11 = ((npc b.length s % 256 : Nat) : Int) := by
  have e1 := be2_small ⟨i, by omega⟩
  have e2 := be2_small ⟨npc b.length s, by omega⟩
  simp only at e1 e2
  have l8 := be_length 8 (BitVec.ofInt 64 id) (by omega)
  unfold pieceI pcB pcH
  rw [e1, e2]
  obtain ⟨x0, x1, x2, x3, x4, x5, x6, x7, hx⟩ : ∃ x0 x1 x2 x3 x4 x5 x6 x7, be 8 (BitVec.ofInt 64 id) = [x0, x1, x2, x3, x4, x5, x6, x7] := by
    match be 8 (BitVec.ofInt 64 id), l8 with
    | [a0, a1, a2, a3, a4, a5, a6, a7], _ => exact ⟨a0, a1, a2, a3, a4, a5, a6, a7, rfl⟩
  rw [hx]
  have q1 : i / 256 = 0 := by omega
  have q2 : i % 256 = i := by omega
  have q3 : npc b.length s / 256 < 256 := by omega
  rw [q1, q2]
  unfold bt
  refine ⟨rfl, ?_, ?_, ?_⟩
  · show ((BitVec.ofNat 8 i).toNat : Int) = i
    rw [BitVec.toNat_ofNat]; omega
  · show ((BitVec.ofNat 8 (npc b.length s / 256)).toNat : Int) = _
    rw [BitVec.toNat_ofNat]; omega
  · show ((BitVec.ofNat 8 (npc b.length s % 256)).toNat : Int) = _
    rw [BitVec.toNat_ofNat]; omega
/-- how many bytes the first k pieces have -/
def clen (b : List (BitVec 8)) (s k : Nat) : Nat := (b.take (k * s)).length
theorem clen_succ (b : List (BitVec 8)) (s k : Nat) : clen b s (k + 1) = clen b s k + (chk b s k).length := by
  unfold clen chk
  rw [Nat.add_mul, Nat.one_mul, List.take_add, List.length_append]
theorem clen_le (b : List (BitVec 8)) (s k : Nat) : clen b s k ≤ b.length := by unfold clen; rw [List.length_take]; omega
theorem clen_all (b : List (BitVec 8)) (s : Nat) (hs : 1 ≤ s) : clen b s (npc b.length s) = b.length := by unfold clen; rw [List.take_of_length_le (npc_ge _ _ hs)]
theorem chk_full (b : List (BitVec 8)) (s k : Nat) (hs : 1 ≤ s) (hk : k + 1 < npc b.length s) : (chk b s k).length = s := by
  have := npc_most b.length s hs (k + 1) hk
  rw [Nat.add_mul, Nat.one_mul] at this
  unfold chk
  rw [List.length_take, List.length_drop]; omega
end Go.Proofs.Ytdagekciipfnoaa

