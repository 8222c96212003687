/- A higher floor changes nothing above it: EntriesOver's walk. -/
import Derived.Test.YtehbolkjgiedbaaEn21
import Derived.Test.YtehbolkjgiedbaaEnA
namespace Go.Proofs.Ytehbolkjgiedbaa
open Go.RowKit Go.Shelf
set_option linter.unusedVariables false
set_option maxRecDepth 4000

theorem over_fl (m : Lm) (k : Nat) : ((m.over k).fl : Int) = (m.fl : Int) + k := by show ((m.fl + k : Nat) : Int) = _; omega
theorem over_len (m : Lm) (k : Nat) : (m.over k).l.length = m.l.length - k := by show (m.l.drop k).length = _; rw [List.length_drop]
theorem over_term {m : Lm} (hw : m.Wf) {k : Nat} (hk : k ≤ m.l.length) {n : Int} (hn : (m.fl : Int) + k ≤ n) : (m.over k).term n = m.term n := by
  have hf := over_fl m k
  have hl := over_len m k
  rcases (m.over k).cases n with h1 | h1 | ⟨i, hi, h1⟩ | h1
  · omega
  · rw [(Lm.part_fl h1).2]
    show (((m.term ((m.fl : Int) + k)).toNat : Nat) : Int) = m.term n
    have e : n = (m.fl : Int) + k := by omega
    have := term_bd hw (n := (m.fl : Int) + k) (decide_eq_true (by omega))
    rw [e]; omega
  · rw [(Lm.part_in hi h1).2]
    have hi' : k + i < m.l.length := by omega
    rw [(Lm.part_in (m := m) (n := n) hi' (by omega)).2]
    simp only [Lm.over, List.getElem_drop]
  · rw [(Lm.part_high h1).2, (Lm.part_high (m := m) (by omega)).2]
theorem over_memK {m : Lm} (hw : m.Wf) {k : Nat} (hk : k ≤ m.l.length) (j : Nat) : (m.over k).memK j = m.memK (k + j) := by
  induction j with
  | zero =>
    show (((m.mem ((m.fl : Int) + k)).toNat : Nat) : Int) = m.memK k
    have hb : m.hasB ((m.fl : Int) + k) = true := decide_eq_true (by omega)
    have e : ((m.fl : Int) + k - m.fl).toNat = k := by omega
    unfold Lm.mem
    rw [if_pos hb, e]
    have := memK_bd hw k
    omega
  | succ j ih =>
    rw [Lm.memK, show k + (j + 1) = (k + j) + 1 by omega, Lm.memK, ih]
    have : (m.over k).l[j]? = m.l[k + j]? := by show (m.l.drop k)[j]? = _; rw [List.getElem?_drop]
    rw [this]
theorem over_mem {m : Lm} (hw : m.Wf) {k : Nat} (hk : k ≤ m.l.length) {n : Int} (hn : (m.fl : Int) + k ≤ n) : (m.over k).mem n = m.mem n := by
  have hf := over_fl m k
  have hl := over_len m k
  have hb : (m.over k).hasB n = m.hasB n := by unfold Lm.hasB; rw [decide_eq_decide]; omega
  unfold Lm.mem
  rw [hb]
  by_cases h : m.hasB n = true
  · rw [if_pos h, if_pos h, over_memK hw hk]
    congr 1
    omega
  · rw [if_neg h, if_neg h]
theorem over_wf {m : Lm} (hw : m.Wf) {k : Nat} (hk : k ≤ m.l.length) (hp : m.fl + k ≤ 1125899906842624) : (m.over k).Wf := by
  have hb : m.hasB ((m.fl : Int) + k) = true := decide_eq_true (by omega)
  have ht := term_bd hw hb
  have hm := memK_bd hw k
  have hm2 : m.mem ((m.fl : Int) + k) = m.memK k := by
    have e : ((m.fl : Int) + k - m.fl).toNat = k := by omega
    unfold Lm.mem; rw [if_pos hb, e]
  refine ⟨hp, by show (m.term _).toNat ≤ _; omega, by show 1 ≤ (m.mem _).toNat ∧ (m.mem _).toNat ≤ 31; rw [hm2]; omega, by rw [over_len]; have := hw.full; omega, fun e he => hw.each e (List.mem_of_mem_drop he), ?_⟩
  show ((((m.term ((m.fl : Int) + k)).toNat : Nat) : Int) :: (m.l.drop k).map (fun e : Ent => e.2.1)).Pairwise (· ≤ ·)
  rw [show (((m.term ((m.fl : Int) + k)).toNat : Nat) : Int) = m.term ((m.fl : Int) + k) by omega]
  have hg := hw.good
  have e0 : m.l = m.l.take k ++ m.l.drop k := (List.take_append_drop k m.l).symm
  rw [e0, goodB_append, Bool.and_eq_true] at hg
  have e1 : lastT m.ft (m.l.take k) = m.term ((m.fl : Int) + k) := by
    have := (m.upto k).tt_eq
    have e2 : (m.upto k).tt = m.term ((m.fl : Int) + k) := by
      unfold Lm.tt Lm.top
      have hul : (m.upto k).l.length = k := by show (m.l.take k).length = k; rw [List.length_take]; omega
      have huf : (m.upto k).fl = m.fl := rfl
      rw [hul, huf]
      cases k with
      | zero => rw [(Lm.part_fl (m := m.upto 0) (by show _ = ((m.fl : Nat) : Int); omega)).2, (Lm.part_fl (m := m) (by omega)).2]; rfl
      | succ k =>
        rw [(Lm.part_in (m := m.upto (k + 1)) (i := k) (by omega) (by show _ = ((m.fl : Nat) : Int) + _ + 1; omega)).2, (Lm.part_in (m := m) (i := k) (by omega) (by omega)).2]
        simp only [Lm.upto, List.getElem_take]
    rw [← e2, this]; rfl
  rw [← e1]
  exact goodB_rise hg.2

set_option maxHeartbeats 4000000 in
theorem entriesOver_walk (mem : Int) (a : Option Addr) (len cap : Nat) (l : List Ent) (n : Int) (w : World) (hmem : -9223372036854775808 ≤ mem ∧ mem ≤ 9223372036854775807) (A : l.length = len ∧ len ≤ cap ∧ len ≤ 140737488355328 ∧ EArgs w a l) (hn : -9223372036854775808 ≤ n ∧ n ≤ 9223372036854775807) :
    Calls Try.prog 5 #[.int .i64 mem, .slice a len cap, .int .i64 n] w fun e w' => e = .returned (.bool true) ∧ Below w.heap.size w w' := by
  obtain ⟨hl, hlc, hlen, hA⟩ := A
  subst hl
  have HL := log9_any 0 0 mem a l.length cap l w rfl hlc hlen hA
  have hlI : (l.length : Int) ≤ 140737488355328 := by omega
  clear hA
  go_enter Try.func5, Try.ntmps5
  go_wp2_with fail
  refine HL.mono ?_
  rintro e w1 ⟨(⟨h1, h2, h3, g, rfl, hg, L1⟩ | ⟨hno, rfl⟩), b1⟩
  · by_cases h60 : 60 < l.length
    · have q1 : (60 : Int) < (l.length : Int) := by omega
      have F : Hid _ := b1
      clear L1 b1 HL h1 h3
      go_wp2_with fail
      refine (known9_any w1).mono ?_
      rintro e w2 ⟨rfl, b2⟩
      have G : Hid _ := below_then F.out b2
      clear F b2
      go_wp2
      go_ret
      exact ⟨rfl, G.out⟩
    · have q1 : ¬ (60 : Int) < (l.length : Int) := by omega
      have hwf := logm_wf h1 h2 h3
      obtain ⟨M, hM⟩ : ∃ M : Lm, M = ⟨(0 : Int).toNat, (0 : Int).toNat, mem.toNat, l⟩ := ⟨_, rfl⟩
      have hMl : M.l.length = l.length := by rw [hM]
      have hMf : M.fl = 0 := by rw [hM]; rfl
      rw [← hM] at hwf L1
      have HH : Hid (M.Wf ∧ Lg w1 g M ∧ M.l.length = l.length ∧ M.fl = 0 ∧ Below w.heap.size w w1) := ⟨hwf, L1, hMl, hMf, b1⟩
      clear hM hwf L1 hMl hMf b1 HL h1 h2 h3 hg
      go_wp2_with fail
      cases hb : M.hasB n with
      | false =>
        have hb' := of_decide_eq_false hb
        rw [HH.out.2.2.1, HH.out.2.2.2.1] at hb'
        refine (enOver_no g M n w1 HH.out.2.1 HH.out.1 hn hb).mono ?_
        rintro e w2 ⟨rfl, b2⟩
        have F : Hid _ := below_then HH.out.2.2.2.2 b2
        clear HH b2 hb
        by_cases c1 : n < 0
        · clear hb'
          go_wp2_with fail
          refine (known9_any w2).mono ?_
          rintro e w3 ⟨rfl, b3⟩
          have G : Hid _ := below_then F.out b3
          clear F b3
          go_wp2
          go_ret
          exact ⟨rfl, G.out⟩
        · have c2 : (l.length : Int) < n := by omega
          clear hb'
          go_wp2_with fail
          refine (known9_any w2).mono ?_
          rintro e w3 ⟨rfl, b3⟩
          have G : Hid _ := below_then F.out b3
          clear F b3
          go_wp2
          go_ret
          exact ⟨rfl, G.out⟩
      | true =>
        have hb' := of_decide_eq_true hb
        rw [HH.out.2.2.1, HH.out.2.2.2.1] at hb'
        obtain ⟨k0, hk0, hkl⟩ : ∃ k : Nat, n = k ∧ k ≤ l.length := ⟨n.toNat, by omega, by omega⟩
        subst hk0
        clear hb hb'
        refine (enOver_yes g M k0 k0 w1 HH.out.2.1 HH.out.1 (by rw [HH.out.2.2.1]; exact hkl) (by rw [HH.out.2.2.2.1]; omega)).mono ?_
        rintro e w2 ⟨g2, rfl, hg2, L2, b2⟩
        obtain ⟨hwf, L1, hMl, hMf, b1⟩ := HH.out
        have hwf2 := over_wf hwf (k := k0) (by omega) (by omega)
        have hof : ((M.over k0).fl : Int) = k0 := by rw [over_fl, hMf]; omega
        have hol := over_len M k0
        have HI : Hid (M.Wf ∧ (M.over k0).Wf ∧ M.l.length = l.length ∧ M.fl = 0 ∧ ((M.over k0).fl : Int) = k0 ∧ (M.over k0).l.length = M.l.length - k0) := ⟨hwf, hwf2, hMl, hMf, hof, hol⟩
        have HW : Hid (Below w.heap.size w w2 ∧ Lg w2 g M ∧ Lg w2 g2 (M.over k0)) := ⟨below_then b1 b2, L1.later b2, L2⟩
        have hkI : (k0 : Int) ≤ (l.length : Int) := by omega
        clear HH hwf L1 hMl hMf b1 L2 b2 hg2 hwf2 hof hol
        go_wp2_with fail
        go_loopw [10] (fun kv wr => ∃ j : Nat, j ≤ l.length - k0 + 1 ∧ kv = .int .i64 ((k0 : Int) + j) ∧ Below w.heap.size w wr ∧ Lg wr g M ∧ Lg wr g2 (M.over k0)) (fun kv _ => ((l.length : Int) + 2 - intOf kv).toNat)
        case atStart => exact ⟨0, by omega, by go_num, HW.out.1, HW.out.2.1, HW.out.2.2⟩
        case round =>
          obtain ⟨j, hj, rfl, hbw, Lr, Lr2⟩ := hrel
          by_cases hlt : j ≤ l.length - k0
          · have q2 : (k0 : Int) + j ≤ (l.length : Int) := by omega
            obtain ⟨hwf, hwf2, hMl, hMf, hof, hol⟩ := HI.out
            have hn64 : I64 ((k0 : Int) + j) := by unfold I64; omega
            have ht := over_term hwf (k := k0) (by omega) (n := (k0 : Int) + j) (by omega)
            have hme := over_mem hwf (k := k0) (by omega) (n := (k0 : Int) + j) (by omega)
            have hs1 : ∀ W, Lg W g M → Calls Try.prog 11 #[.pointer (some ⟨g, 0, none⟩), .int .i64 ((k0 : Int) + j + 1), .int .i64 3] W fun r w' => ∃ a cap, r = .returned (.slice a ((M.l.drop (k0 + j)).take 3).length cap) ∧ ((M.l.drop (k0 + j)).take 3).length ≤ cap ∧ (a = none → cap = 0) ∧ EArgs w' a ((M.l.drop (k0 + j)).take 3) ∧ Below W.heap.size W w' := fun W hW => enSlice_in g M ((k0 : Int) + j + 1) 3 (k0 + j) W hW hwf (by omega) (by omega) (by unfold I64; omega)
            have hs2 : ∀ W, Lg W g2 (M.over k0) → Calls Try.prog 11 #[.pointer (some ⟨g2, 0, none⟩), .int .i64 ((k0 : Int) + j + 1), .int .i64 3] W fun r w' => ∃ a cap, r = .returned (.slice a ((M.l.drop (k0 + j)).take 3).length cap) ∧ ((M.l.drop (k0 + j)).take 3).length ≤ cap ∧ (a = none → cap = 0) ∧ EArgs w' a ((M.l.drop (k0 + j)).take 3) ∧ Below W.heap.size W w' := fun W hW => by
              have := enSlice_in g2 (M.over k0) ((k0 : Int) + j + 1) 3 j W hW hwf2 (by omega) (by omega) (by unfold I64; omega)
              have e : ((M.over k0).l.drop j) = M.l.drop (k0 + j) := by show (M.l.drop k0).drop j = _; rw [List.drop_drop]
              rw [e] at this
              exact this
            have hlen3 : ((M.l.drop (k0 + j)).take 3).length ≤ 3 := by rw [List.length_take]; omega
            have HC : Hid _ := And.intro hs1 (And.intro hs2 (And.intro hn64 (And.intro ht (And.intro hme (And.intro hwf hwf2)))))
            have HB : Hid (Below w.heap.size w wr ∧ Lg wr g M ∧ Lg wr g2 (M.over k0)) := ⟨hbw, Lr, Lr2⟩
            generalize (M.l.drop (k0 + j)).take 3 = D at *
            clear hs1 hs2 hn64 ht hme hwf hwf2 hMl hMf hof hol hbw Lr Lr2
            go_wp2_with fail
            refine (enTerm_any g M _ wr HB.out.2.1 HC.out.2.2.2.2.2.1 HC.out.2.2.1).mono ?_
            rintro e x1 ⟨rfl, c1⟩
            have HB1 : Hid (Below w.heap.size w x1 ∧ Lg x1 g M ∧ Lg x1 g2 (M.over k0)) := ⟨below_then HB.out.1 c1, Lg.later HB.out.2.1 c1, Lg.later HB.out.2.2 c1⟩
            clear c1 HB
            go_wp2_with fail
            refine (enTerm_any g2 (M.over k0) _ x1 HB1.out.2.2 HC.out.2.2.2.2.2.2 HC.out.2.2.1).mono ?_
            rintro e x2 ⟨rfl, c2⟩
            have HB2 : Hid (Below w.heap.size w x2 ∧ Lg x2 g M ∧ Lg x2 g2 (M.over k0)) := ⟨below_then HB1.out.1 c2, Lg.later HB1.out.2.1 c2, Lg.later HB1.out.2.2 c2⟩
            rw [HC.out.2.2.2.1]
            clear c2 HB1
            go_wp2_with fail
            refine (enMembers_any g M _ x2 HB2.out.2.1 HC.out.2.2.2.2.2.1 HC.out.2.2.1).mono ?_
            rintro e x3 ⟨rfl, c3⟩
            have HB3 : Hid (Below w.heap.size w x3 ∧ Lg x3 g M ∧ Lg x3 g2 (M.over k0)) := ⟨below_then HB2.out.1 c3, Lg.later HB2.out.2.1 c3, Lg.later HB2.out.2.2 c3⟩
            clear c3 HB2
            go_wp2_with fail
            refine (enMembers_any g2 (M.over k0) _ x3 HB3.out.2.2 HC.out.2.2.2.2.2.2 HC.out.2.2.1).mono ?_
            rintro e x4 ⟨rfl, c4⟩
            have HB4 : Hid (Below w.heap.size w x4 ∧ Lg x4 g M ∧ Lg x4 g2 (M.over k0)) := ⟨below_then HB3.out.1 c4, Lg.later HB3.out.2.1 c4, Lg.later HB3.out.2.2 c4⟩
            rw [HC.out.2.2.2.2.1]
            clear c4 HB3
            go_wp2_with fail
            refine (HC.out.1 x4 HB4.out.2.1).mono ?_
            rintro e x5 ⟨sa, sc, rfl, hsc, -, hsA, c5⟩
            have HB5 : Hid (Below w.heap.size w x5 ∧ Lg x5 g M ∧ Lg x5 g2 (M.over k0) ∧ EArgs x5 sa D) := ⟨below_then HB4.out.1 c5, Lg.later HB4.out.2.1 c5, Lg.later HB4.out.2.2 c5, hsA⟩
            clear c5 HB4 hsA
            go_wp2_with fail
            refine (HC.out.2.1 x5 HB5.out.2.2.1).mono ?_
            rintro e x6 ⟨sb, sd, rfl, hsd, -, hsB, c6⟩
            have HB6 : Hid (Below w.heap.size w x6 ∧ Lg x6 g M ∧ Lg x6 g2 (M.over k0) ∧ EArgs x6 sa D ∧ EArgs x6 sb D) := ⟨below_then HB5.out.1 c6, Lg.later HB5.out.2.1 c6, Lg.later HB5.out.2.2.1 c6, EArgs.later HB5.out.2.2.2 c6, hsB⟩
            clear c6 HB5 hsB
            go_wp2_with fail
            refine (same9_yes sa sb sc sd D x6 (by omega) hsc hsd HB6.out.2.2.2.1 HB6.out.2.2.2.2).mono ?_
            rintro e x7 ⟨rfl, c7⟩
            have F : Hid (Below w.heap.size w x7 ∧ Lg x7 g M ∧ Lg x7 g2 (M.over k0)) := ⟨below_then HB6.out.1 c7, Lg.later HB6.out.2.1 c7, Lg.later HB6.out.2.2.1 c7⟩
            clear c7 HB6 HC
            go_wp2
            go_roundw
            case rel => exact ⟨j + 1, by omega, by go_num, F.out.1, F.out.2.1, F.out.2.2⟩
            case measure => simp [intOf]; omega
          · have q2 : ¬ (k0 : Int) + j ≤ (l.length : Int) := by omega
            obtain ⟨hwf, hwf2, hMl, hMf, hof, hol⟩ := HI.out
            have HT := enTerm_any g2 (M.over k0) ((k0 : Int) - 1) wr Lr2 hwf2 (by unfold I64; omega)
            rw [(Lm.part_low (m := M.over k0) (n := (k0 : Int) - 1) (by omega)).2] at HT
            have HB : Hid _ := hbw
            clear hwf hwf2 hMl hMf hof hol Lr Lr2 hbw
            go_wp2_with fail
            refine HT.mono ?_
            rintro e x1 ⟨rfl, c1⟩
            have HB1 : Hid _ := below_then HB.out c1
            clear c1 HB HT
            go_wp2_with fail
            refine (known9_any x1).mono ?_
            rintro e x2 ⟨rfl, c2⟩
            have G : Hid _ := below_then HB1.out c2
            clear HB1 c2
            go_wp2
            go_ret
            exact ⟨rfl, G.out⟩
  · have F : Hid _ := b1
    clear b1 HL hno
    go_wp2_with fail
    refine (known9_any w1).mono ?_
    rintro e w2 ⟨rfl, b2⟩
    have G : Hid _ := below_then F.out b2
    clear F b2
    go_wp2
    go_ret
    exact ⟨rfl, G.out⟩
end Go.Proofs.Ytehbolkjgiedbaa
