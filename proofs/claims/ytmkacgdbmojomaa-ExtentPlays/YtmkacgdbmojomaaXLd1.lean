/- extent, the document's: Load. -/
import Derived.Test.YtmkacgdbmojomaaXErF
import Derived.Test.YtmkacgdbmojomaaXFieldP2
import Derived.Test.YtmkacgdbmojomaaXEr7
import Derived.Test.YtmkacgdbmojomaaXEr3
namespace Go.Proofs.Ytmkacgdbmojomaa
open Go.RowKit
set_option linter.unusedVariables false
set_option linter.unusedSimpArgs false
set_option maxRecDepth 8000

theorem rd2_yes (L : List (BitVec 8)) (h : 2 ≤ L.length) : rdNum L 0 2 = (L.drop 2, 0, (n2 L : Int)) := by
  have hw : widthB 2 = true := by decide
  have hn : numE L.length 2 = 0 := by unfold numE; rw [hw, if_neg (by decide), if_neg (by omega)]
  unfold rdNum
  rw [if_pos rfl, if_pos hn]
  have e : wrap64 ((numTo L 0 2).toNat : Int) = (n2 L : Int) := by
    have := n2_lt L
    unfold n2 at *
    unfold wrap64
    omega
  show (L.drop 2, 0, wrap64 ((numTo L 0 2).toNat : Int)) = _
  rw [e]
theorem rd2_no (L : List (BitVec 8)) (h : L.length < 2) : rdNum L 0 2 = ([], 10, 0) := by
  have hw : widthB 2 = true := by decide
  have hn : numE L.length 2 = 10 := by unfold numE; rw [hw, if_neg (by decide), if_pos (by omega)]
  unfold rdNum
  rw [if_pos rfl, hn, if_neg (by decide)]
theorem rd2_bad (L : List (BitVec 8)) (E : Int) (h : E ≠ 0) : rdNum L E 2 = ([], E, 0) := by unfold rdNum; rw [if_neg h]
theorem rd2_two (L : List (BitVec 8)) : ∃ L1 E1 v1 L2 E2 v2, rdNum L 0 2 = (L1, E1, v1) ∧ rdNum L1 E1 2 = (L2, E2, v2) ∧ (L.length < 4 → E2 = 10) ∧ (4 ≤ L.length → E2 = 0 ∧ L2 = L.drop 4 ∧ v1 = (n2 L : Int) ∧ v2 = (n2 (L.drop 2) : Int)) := by
  by_cases h2 : L.length < 2
  · exact ⟨_, _, _, _, _, _, rd2_no L h2, rd2_bad _ _ (by decide), fun _ => rfl, fun h => by omega⟩
  · by_cases h4 : L.length < 4
    · exact ⟨_, _, _, _, _, _, rd2_yes L (by omega), rd2_no _ (by rw [List.length_drop]; omega), fun _ => rfl, fun h => by omega⟩
    · exact ⟨_, _, _, _, _, _, rd2_yes L (by omega), rd2_yes _ (by rw [List.length_drop]; omega), fun h => by omega, fun _ => ⟨rfl, by rw [List.drop_drop], rfl, rfl⟩⟩
set_option maxHeartbeats 400000 in
theorem riNew_no (n : Int) (w : World) (h : n < 1 ∨ 256 < n) : Calls Try.prog 7 #[.int .i64 n] w fun e w' => e = .returned (.tuple #[.pointer none, .int .i64 1]) ∧ w = w' := by
  by_cases h1 : n < 1
  · go_enter Try.func7, Try.ntmps7
    go_wp2
    refine bodyPost_ret (v := .tuple #[.pointer none, .int .i64 1]) (by first | rfl | simp [results, Try.results7, go_sem]) rfl ?_
    exact ⟨rfl, rfl⟩
  · have h2 : 256 < n := by omega
    go_enter Try.func7, Try.ntmps7
    go_wp2
    refine bodyPost_ret (v := .tuple #[.pointer none, .int .i64 1]) (by first | rfl | simp [results, Try.results7, go_sem]) rfl ?_
    exact ⟨rfl, rfl⟩
/-- the reader and the image, while blocks are read -/
structure LdS (w W : World) (gd r lb : Nat) (V : List Nat) (m : Im) (L : List (BitVec 8)) : Prop where
  rd : Rd W [lb] gd 97 L 0
  img : (ri r lb V m).Ok W
  wf : m.Wf
  low : w.heap.size ≤ r ∧ w.heap.size ≤ lb ∧ w.heap.size ≤ gd ∧ ∀ k ∈ V, w.heap.size ≤ k
  far : gd ≠ r ∧ gd ≠ lb ∧ gd ∉ V
  below : Below w.heap.size w W
/-- what Load answers -/
def LdR (L : List (BitVec 8)) (w : World) (e : Ending) (w' : World) : Prop :=
  ((ldM L).1 ≠ 0 ∧ e = .returned (.tuple #[.pointer none, .int .i64 (ldM L).1]) ∧ Below w.heap.size w w') ∨
  ((ldM L).1 = 0 ∧ ∃ r lb V, e = .returned (.tuple #[.pointer (some ⟨r, 0, none⟩), .int .i64 0]) ∧ (ri r lb V (ldM L).2).Ok w' ∧ (∀ k, k ∈ (ri r lb V (ldM L).2).W ∨ k ∈ (ri r lb V (ldM L).2).V → w.heap.size ≤ k) ∧ Below w.heap.size w w')
theorem LdR.err {L : List (BitVec 8)} {w w' : World} {E : Int} (h : (ldM L).1 = E) (hE : E ≠ 0) (hb : Below w.heap.size w w') : LdR L w (.returned (.tuple #[.pointer none, .int .i64 E])) w' :=
  .inl ⟨by rw [h]; exact hE, by rw [h], hb⟩
theorem LdS.num {w W W' : World} {gd r lb : Nat} {V : List Nat} {m : Im} {L L' : List (BitVec 8)} (h : LdS w W gd r lb V m L) (hr : Rd W' [lb] gd 97 L' 0) (hg : W.grownBy W' (some gd)) : LdS w W' gd r lb V m L' :=
  ⟨hr, h.img.turned (turned_grown (R := fun k => k = gd) hg (fun k e => (Option.some.inj e).symm)) (fun k hk e => by
      subst e
      rcases hk with hk | hk
      · exact h.far.2.1 (by simpa [ri] using hk)
      · rcases List.mem_cons.1 hk with e | e
        · exact h.far.1 e
        · exact h.far.2.2 e), h.wf, h.low, h.far, h.below.grown hg h.below.size (fun k e => by have := Option.some.inj e; have := h.low.2.2.1; omega)⟩
theorem turned_grownBy {w w' : World} {lb : Nat} (h : Turned (· ∈ [lb]) w w') : w.grownBy w' (some lb) := ⟨h.os, h.tape, h.output, h.size, fun k hk hn => h.block k hk (fun e => hn (by rw [List.mem_singleton.1 e]))⟩
theorem LdS.put {w W W' : World} {gd r lb : Nat} {V V' : List Nat} {m m' : Im} {L : List (BitVec 8)} (h : LdS w W gd r lb V m L) (st : Step W W' (ri r lb V m) (ri r lb V' m')) (hw : m'.Wf) : LdS w W' gd r lb V' m' L := by
  have hg := turned_grownBy (lb := lb) st.turned
  have hgl := h.rd.blt
  have hV : ∀ k ∈ V', k = lb ∨ k = r ∨ k ∈ V ∨ W.heap.size ≤ k := fun k hk => by
    rcases st.reads k (List.mem_cons_of_mem _ hk) with e | e | e
    · exact .inl (by simpa [ri] using e)
    · rcases List.mem_cons.1 e with e | e
      · exact .inr (.inl e)
      · exact .inr (.inr (.inl e))
    · exact .inr (.inr (.inr e))
  refine ⟨h.rd.keep hg (fun k e => ⟨fun e2 => h.far.2.1 (by rw [← e2]; exact (Option.some.inj e).symm), .inl (by rw [Option.some.inj e]; simp)⟩), st.ok, hw, ⟨h.low.1, h.low.2.1, h.low.2.2.1, fun k hk => ?_⟩, ⟨h.far.1, h.far.2.1, fun hk => ?_⟩, h.below.trans (h.below.size |> fun hz => (h.below.grown hg hz (fun k e => by have := Option.some.inj e; have := h.low.2.1; omega)) |> fun hb => ?_)⟩
  · rcases hV k hk with rfl | rfl | e | e
    · exact h.low.2.1
    · exact h.low.1
    · exact h.low.2.2.2 k e
    · exact Nat.le_trans h.below.size e
  · rcases hV gd hk with e | e | e | e
    · exact h.far.2.1 e
    · exact h.far.1 e
    · exact h.far.2.2 e
    · omega
  · exact grown_below hg w.heap.size (by have := h.low.2.1; omega) h.below.size
theorem LdS.new {w W : World} {gd r lb : Nat} {V : List Nat} {m : Im} {L : List (BitVec 8)} (h : LdS w W gd r lb V m L) : ∀ k, k ∈ (ri r lb V m).W ∨ k ∈ (ri r lb V m).V → w.heap.size ≤ k := fun k hk => by
  rcases hk with hk | hk
  · rw [show k = lb by simpa [ri] using hk]; exact h.low.2.1
  · rcases List.mem_cons.1 hk with e | e
    · rw [e]; exact h.low.1
    · exact h.low.2.2.2 k e
theorem row_first {w : World} {a : Option Addr} {l : List (BitVec 8)} (h : Row w a l) (k : Nat) : Row w a (l.take k) := by
  rcases h with h | ⟨b, off, rfl, hc⟩
  · exact .inl (by rw [h]; simp)
  · refine .inr ⟨b, off, rfl, fun i hi => ?_⟩
    rw [List.length_take] at hi
    rw [hc i (by omega)]
    unfold bt
    simp [List.getD, List.getElem?_take, show i < k by omega]
set_option maxHeartbeats 16000000 in
theorem riLoad_any (a : Option Addr) (len cap : Nat) (L : List (BitVec 8)) (w : World) (hl : L.length = len) (hle : len ≤ cap) (hr : Row w a L) (hn : a = none → cap = 0) (hlen : len ≤ 140737488351232) :
    Calls Try.prog 19 #[.slice a len cap] w fun e w' => LdR L w e w' := by
  subst hl
  have HP : Hid _ := And.intro hr (And.intro hn (And.intro hle hlen))
  clear hr hn hle hlen
  go_enter Try.func19, Try.ntmps19
  go_wp2_with fail
  refine (Calls.mono (Of_any a L.length cap L w rfl HP.out.2.2.1 HP.out.1 HP.out.2.1 HP.out.2.2.2)) ?_
  rintro e w1 ⟨gd, rfl, hg, hRd, b1⟩
  have R1 := hRd [] (by simp)
  obtain ⟨L1, E1, v1, L2, E2, v2, e1, e2, hs, hb⟩ := rd2_two L
  have N1 := rNum_any [] gd L 0 2 w1 R1
  rw [e1] at N1
  simp only at N1
  have H1 : Hid _ := And.intro N1 (And.intro hg (And.intro b1 (And.intro hs (And.intro hb e2))))
  clear N1 R1 hRd b1 hs hb e1 e2 hg
  go_wp2_with fail
  refine (Calls.mono H1.out.1) ?_
  rintro e w2 ⟨rfl, R2, g2⟩
  have N2 := rNum_any [] gd L1 E1 2 w2 R2
  rw [H1.out.2.2.2.2.2] at N2
  simp only at N2
  have H2 : Hid _ := And.intro N2 (H1.out.2.2.1.grown g2 H1.out.2.2.1.size (fun k e => by have := Option.some.inj e; have := H1.out.2.1; omega))
  clear N2 R2 g2
  go_wp2_with fail
  refine (Calls.mono H2.out.1) ?_
  rintro e w3 ⟨rfl, R3, g3⟩
  have b3 := H2.out.2.grown g3 H2.out.2.size (fun k e => by have := Option.some.inj e; have := H1.out.2.1; omega)
  obtain ⟨ra, rn, rc, hB3, hx3⟩ := R3.any_blk
  have y0 := hB3.cell (by simp [maxLen]) 0 (by simp)
  have y1 := hB3.cell (by simp [maxLen]) 1 (by simp)
  simp only [List.getElem?_cons_zero, List.getElem?_cons_succ] at y0 y1
  have H3 : Hid _ := And.intro R3 b3
  clear R3 b3 g3 hB3 hx3 H2
  by_cases h4 : L.length < 4
  · obtain rfl : E2 = 10 := H1.out.2.2.2.1 h4
    have hE : (ldM L).1 = 10 := by unfold ldM; rw [if_pos h4]
    have HE : Hid _ := And.intro hE H3.out.2
    clear hE H3 H1 h4
    go_wp2_with fail
    go_quiet (fail)
    go_wp2
    refine bodyPost_ret (v := .tuple #[.pointer none, .int .i64 10]) (by first | rfl | simp [results, Try.results19, go_sem]) rfl ?_
    exact LdR.err HE.out.1 (by decide) (below_then HE.out.2 (below_drewN _ _ _))
  · obtain ⟨rfl, rfl, rfl, rfl⟩ := H1.out.2.2.2.2.1 (by omega)
    have hn1 := n2_lt L
    have hk1 := n2_lt (L.drop 2)
    have HLM : Hid _ := (show ldM L = if n2 L < 1 ∨ 256 < n2 L then (1, im0 0) else ldL (n2 (L.drop 2)) (-1) (im0 (n2 L)) (L.drop 4) by unfold ldM; rw [if_neg h4])
    have Hlen4 : Hid _ := h4
    generalize hnn : n2 L = nn at *
    generalize hkk : n2 (L.drop 2) = kk at *
    clear hnn hkk
    by_cases hbad : nn < 1 ∨ 256 < nn
    · have HE : Hid _ := (show (ldM L).1 = 1 by rw [HLM.out, if_pos hbad])
      have hb' : (nn : Int) < 1 ∨ 256 < (nn : Int) := by omega
      have HN : Hid _ := riNew_no (nn : Int) w3 hb'
      clear hbad hb' h4
      go_wp2_with fail
      refine (Calls.mono HN.out) ?_
      rintro e _ ⟨rfl, rfl⟩
      go_wp2
      refine bodyPost_ret (v := .tuple #[.pointer none, .int .i64 1]) (by first | rfl | simp [results, Try.results19, go_sem]) rfl ?_
      exact LdR.err HE.out (by decide) H3.out.2
    · have HN : Hid _ := riNew_yes nn w3 (by omega)
      have HLM2 : Hid _ := (show ldM L = ldL kk (-1) (im0 nn) (L.drop 4) by rw [HLM.out, if_neg hbad])
      have HWf : Hid _ := (show (im0 nn).Wf from ⟨by show 1 ≤ nn; omega, by show nn ≤ 256; omega, fun k l e => by cases e⟩)
      clear hbad h4 HLM
      go_wp2_with fail
      refine (Calls.mono HN.out) ?_
      rintro e w4 ⟨r, lb, rfl, hok, b4, hrr, hlb⟩
      have hgl := H3.out.1.blt
      have hgw := H1.out.2.1
      have hS : LdS w w4 gd r lb [] (im0 nn) (L.drop 4) := ⟨(H3.out.1.more lb hlb).later b4, hok, HWf.out, ⟨Nat.le_trans H3.out.2.size hrr, Nat.le_trans H3.out.2.size hlb, Nat.le_trans (Nat.le_refl _) hgw, (fun k hk => by cases hk)⟩, ⟨by omega, by omega, by simp⟩, below_then H3.out.2 b4⟩
      have HS : Hid _ := hS
      clear hS hok b4 hrr hlb hgl hgw H3 H1 HN y0 y1
      go_wp2_with fail
      go_loopw [9, 10] (fun lv iv wr => ∃ (i : Nat) (last : Int) (V : List Nat) (m : Im) (L' : List (BitVec 8)), i ≤ kk ∧ iv = .int .i64 i ∧ lv = .int .i64 last ∧ (-1 ≤ last ∧ last < 65536) ∧ ldL (kk - i) last m L' = ldM L ∧ m.n = nn ∧ LdS w wr gd r lb V m L') (fun _ iv _ => kk - (intOf iv).toNat)
      case atStart => exact ⟨0, -1, [], im0 nn, L.drop 4, Nat.zero_le _, rfl, rfl, ⟨by omega, by omega⟩, HLM2.out.symm, rfl, HS.out⟩
      case round =>
        obtain ⟨i, last, V, m, L', hi, rfl, rfl, hlast, hrec0, hmn, hS⟩ := hrel
        have HI : Hid _ := And.intro hrec0 (And.intro hmn hS)
        clear hrec0 hS
        by_cases hlt : i < kk
        · have q1 : (i : Int) < (kk : Int) := by omega
          have hki : kk - i = (kk - (i + 1)) + 1 := by omega
          have HLast : Hid _ := hlast
          by_cases h66 : L'.length < 66
          · have hE : (ldM L).1 = 10 := by rw [← HI.out.1, hki, ldL, if_pos h66]
            by_cases h2 : L'.length < 2
            · have e1 := rd2_no L' h2
              have N := rNum_any [lb] gd L' 0 2 wr HI.out.2.2.rd
              rw [e1] at N
              simp only at N
              have HN : Hid _ := And.intro N (And.intro hE (And.intro HI.out.2.2.below HI.out.2.2.low.2.2.1))
              clear N e1 HI HLast hE
              go_wp2_with fail
              refine (Calls.mono HN.out.1) ?_
              rintro e w5 ⟨rfl, R5, g5⟩
              have b5 := HN.out.2.2.1.grown g5 HN.out.2.2.1.size (fun k e => by have := Option.some.inj e; have := HN.out.2.2.2; omega)
              obtain ⟨ra, rn, rc, hB, -⟩ := R5.any_blk
              have y1 := hB.cell (by simp [maxLen]) 1 (by simp)
              simp only [List.getElem?_cons_zero, List.getElem?_cons_succ] at y1
              have F : Hid _ := And.intro HN.out.2.1 b5
              clear HN R5 g5 b5 hB
              go_wp2_with fail
              go_quiet (fail)
              go_wp2
              refine bodyPost_ret (v := .tuple #[.pointer none, .int .i64 10]) (by first | rfl | simp [results, Try.results19, go_sem]) rfl ?_
              exact LdR.err F.out.1 (by decide) (below_then F.out.2 (below_drewN _ _ _))
            · have e1 := rd2_yes L' (by omega)
              have N := rNum_any [lb] gd L' 0 2 wr HI.out.2.2.rd
              rw [e1] at N
              simp only at N
              have hnl := n2_lt L'
              have HN : Hid _ := N
              clear N e1
              go_wp2_with fail
              refine (Calls.mono HN.out) ?_
              rintro e w5 ⟨rfl, R5, g5⟩
              have S5 := HI.out.2.2.num R5 g5
              obtain ⟨ra, rn, rc, rl, hR⟩ := R5
              have hrl := hR.ok rfl
              subst hrl
              have hB := hR.blk
              have hrn := hR.len_eq
              rw [List.length_drop] at hrn
              have y0 := hB.cell (by simp [maxLen]) 0 (by simp)
              have y1 := hB.cell (by simp [maxLen]) 1 (by simp)
              have f1 := hB.frozen (by simp [maxLen]) 1
              have f0 := hB.frozen (by simp [maxLen]) 0
              simp only [List.getElem?_cons_zero, List.getElem?_cons_succ] at y0 y1
              have q3 : (rn : Int) < 64 := by omega
              have B6 := hB.set 1 (.int .i64 10)
              have g6 := grown_set w5 gd 1 (.int .i64 10)
              have b6 := S5.below.grown g6 S5.below.size (fun k e => by have := Option.some.inj e; have := S5.low.2.2.1; omega)
              have z1 := B6.cell (by simp [maxLen]) 1 (by simp)
              simp only [List.set_cons_zero, List.set_cons_succ, List.getElem?_cons_zero, List.getElem?_cons_succ] at z1
              have F : Hid _ := And.intro hE b6
              clear HN S5 g5 hB hR g6 B6 b6 hE HI HLast
              go_wp2_with fail
              go_quiet (fail)
              go_wp2
              refine bodyPost_ret (v := .tuple #[.pointer none, .int .i64 10]) (by first | rfl | simp [results, Try.results19, go_sem]) rfl ?_
              exact LdR.err F.out.1 (by decide) (below_then F.out.2 (below_drewN _ _ _))
          · have h2 : 2 ≤ L'.length := by omega
            have e1 := rd2_yes L' (by omega)
            have N := rNum_any [lb] gd L' 0 2 wr HI.out.2.2.rd
            rw [e1] at N
            simp only at N
            have hnl := n2_lt L'
            have HN : Hid _ := N
            clear N e1
            go_wp2_with fail
            refine (Calls.mono HN.out) ?_
            rintro e w5 ⟨rfl, R5, g5⟩
            have S5 := HI.out.2.2.num R5 g5
            obtain ⟨ra, rn, rc, rl, hR⟩ := R5
            have hrl := hR.ok rfl
            subst hrl
            have hB := hR.blk
            have hrn := hR.len_eq
            rw [List.length_drop] at hrn
            have y0 := hB.cell (by simp [maxLen]) 0 (by simp)
            have y1 := hB.cell (by simp [maxLen]) 1 (by simp)
            have f1 := hB.frozen (by simp [maxLen]) 1
            have f0 := hB.frozen (by simp [maxLen]) 0
            simp only [List.getElem?_cons_zero, List.getElem?_cons_succ] at y0 y1
            have q3 : ¬ (rn : Int) < 64 := by omega
            by_cases hbad : (n2 L' : Int) ≤ last ∨ m.n ≤ n2 L'
            · have hE : (ldM L).1 = 11 := by rw [← HI.out.1, hki, ldL, if_neg h66, if_pos hbad]
              have F : Hid _ := And.intro hE S5.below
              clear HN S5 g5 hB hR hE HI HLast
              have q5 : (n2 L' : Int) ≤ last ∨ (nn : Int) ≤ (n2 L' : Int) := by omega
              clear hbad
              generalize n2 L' = x at *
              by_cases q6 : (x : Int) ≤ last
              · go_wp2
                refine bodyPost_ret (v := .tuple #[.pointer none, .int .i64 11]) (by first | rfl | simp [results, Try.results19, go_sem]) rfl ?_
                exact LdR.err F.out.1 (by decide) F.out.2
              · have q7 : (nn : Int) ≤ (x : Int) := by omega
                have q8 : last < (x : Int) := by omega
                go_wp2
                refine bodyPost_ret (v := .tuple #[.pointer none, .int .i64 11]) (by first | rfl | simp [results, Try.results19, go_sem]) rfl ?_
                exact LdR.err F.out.1 (by decide) F.out.2
            · have hnx : last < (n2 L' : Int) := by omega
              have hxm : n2 L' < m.n := by omega
              have hxn : (n2 L' : Int) < (nn : Int) := by omega
              have hrec : ldL (kk - (i + 1)) (n2 L') (putI m (n2 L') (some ((L'.drop 2).take 64))) (L'.drop 66) = ldM L := by rw [← HI.out.1, hki, ldL, if_neg h66, if_neg hbad]
              obtain ⟨rb, ro, rfl⟩ : ∃ rb ro, ra = some ⟨rb, ro, none⟩ := by
                rcases hR.row with h0 | ⟨b, off, e, hc⟩
                · exact absurd (congrArg List.length h0) (by rw [List.length_drop, List.length_nil]; omega)
                · exact ⟨b, off, e⟩
              have hcap := hR.le
              have hrow := hR.row
              have hoff := hR.off _ rfl
              have HW := riWrite_yes r lb V m (n2 L') 1 (some ⟨rb, ro, none⟩) 64 rc ((L'.drop 2).take 64) w5 S5.img S5.wf (by omega) (by omega) (by rw [List.length_take, List.length_drop]; omega) (by omega) (by intro h; cases h) (row_first hrow 64) (fun _ y hy => by cases hy; have := hoff.2; simpa using this)
              have HWf' : (putI m (n2 L') (some ((L'.drop 2).take 64))).Wf := putI_wf S5.wf hxm (fun l e => by cases e; rw [List.length_take, List.length_drop]; omega)
              rw [show wrN m (n2 L') ((L'.drop 2).take 64) 1 = putI m (n2 L') (some ((L'.drop 2).take 64)) by unfold wrN wrN; rw [Nat.zero_mul, List.drop_zero, Nat.add_zero, List.take_take]; rfl] at HW
              have H5 : Hid _ := And.intro hR (And.intro S5 (And.intro hrec (And.intro HWf' (And.intro HW HI.out.2.1))))
              have q64 : (64 : Int) ≤ (rn : Int) := by omega
              have q64n : 64 ≤ rn := by omega
              have q65 : (64 : Int) ≤ (rc : Int) := by omega
              have HX : Hid _ := And.intro h66 (And.intro hbad (And.intro hnx (And.intro hxm hnl)))
              clear hR S5 hrec HWf' HW HI HLast hrow hoff hB HN g5 hbad h66 h2 hki hrn hcap f1 f0
              generalize hx : n2 L' = x at *
              clear hx
              go_wp2_with fail
              refine (Calls.mono H5.out.2.2.2.2.1) ?_
              rintro e w6 ⟨rfl, V', st⟩
              have S6 := H5.out.2.1.put st H5.out.2.2.2.1
              have hR6 := H5.out.1.keep (turned_grownBy st.turned) (fun k e => ⟨fun e2 => H5.out.2.1.far.2.1 (by rw [← e2]; exact (Option.some.inj e).symm), .inl (by rw [Option.some.inj e]; simp)⟩)
              have B6 := hR6.blk
              have z0 := B6.cell (by simp [maxLen]) 0 (by simp)
              have g0 := B6.frozen (by simp [maxLen]) 0
              simp only [List.getElem?_cons_zero, List.getElem?_cons_succ] at z0
              have hle6 := hR6.le
              have hln6 := hR6.len_eq
              rw [List.length_drop] at hln6
              clear y0 y1 st
              by_cases hcs : rc = 64
              · subst hcs
                obtain rfl : rn = 64 := by omega
                have B7 := B6.set 0 (.slice (some ⟨rb, ro, none⟩) 0 0)
                have R7 : Rd (w6.setCell ⟨gd, 0, none⟩ (.slice (some ⟨rb, ro, none⟩) 0 0)) [lb] gd 97 ((L'.drop 2).drop 64) 0 := hR6.cut 64 (by omega) (.inr ⟨rfl, rfl⟩) B7 (grown_set _ _ _ _)
                have S7 := S6.num R7 (grown_set _ _ _ _)
                rw [List.drop_drop] at S7
                have F : Hid _ := And.intro S7 (And.intro H5.out.2.2.1 H5.out.2.2.2.2.2)
                clear S7 R7 B7 S6 hR6 B6 H5 HX
                go_wp2
                go_roundw
                case rel => exact ⟨i + 1, x, V', _, L'.drop 66, by omega, by go_num, rfl, ⟨by omega, by omega⟩, F.out.2.1, F.out.2.2, F.out.1⟩
                case measure => simp [intOf]; omega
              · have hcs2 : 64 < rc := by omega
                have hcs3 : (64 : Int) < (rc : Int) := by omega
                clear hcs
                have B7 := B6.set 0 (.slice (some ⟨rb, ro + 64, none⟩) (rn - 64) (rc - 64))
                have R7 : Rd (w6.setCell ⟨gd, 0, none⟩ (.slice (some ⟨rb, ro + 64, none⟩) (rn - 64) (rc - 64))) [lb] gd 97 ((L'.drop 2).drop 64) 0 := hR6.cut 64 (by omega) (.inl rfl) B7 (grown_set _ _ _ _)
                have S7 := S6.num R7 (grown_set _ _ _ _)
                rw [List.drop_drop] at S7
                have F : Hid _ := And.intro S7 (And.intro H5.out.2.2.1 H5.out.2.2.2.2.2)
                clear S7 R7 B7 S6 hR6 B6 H5 HX
                go_wp2
                go_roundw
                case rel => exact ⟨i + 1, x, V', _, L'.drop 66, by omega, by go_num, rfl, ⟨by omega, by omega⟩, F.out.2.1, F.out.2.2, F.out.1⟩
                case measure => simp [intOf]; omega
        · obtain rfl : i = kk := by omega
          have q1 : ¬ ((i : Int) < (i : Int)) := by omega
          have HE := rEnd_any [lb] gd L' 0 wr HI.out.2.2.rd
          have hr0 : ldL 0 last m L' = ldM L := by rw [← HI.out.1, Nat.sub_self]
          have H6 : Hid _ := And.intro HE (And.intro hr0 HI.out.2.2)
          clear HE hr0 HI
          by_cases h0 : 0 < L'.length
          · have hE : (ldM L).1 = 11 := by rw [← H6.out.2.1, ldL, if_pos h0]
            have F : Hid _ := And.intro hE H6.out.2.2.below
            have HE : Hid (Calls Try.prog 57 #[.pointer (some ⟨gd, 0, none⟩)] wr fun e w' => e = .returned (.int .i64 11) ∧ wr = w') := by have := H6.out.1; unfold rdEnd at this; rw [if_pos rfl, if_pos h0] at this; exact this
            clear H6 hE h0
            go_wp2_with fail
            refine (Calls.mono HE.out) ?_
            rintro e _ ⟨rfl, rfl⟩
            go_wp2
            refine bodyPost_ret (v := .tuple #[.pointer none, .int .i64 11]) (by first | rfl | simp [results, Try.results19, go_sem]) rfl ?_
            exact LdR.err F.out.1 (by decide) F.out.2
          · have hE : ldM L = (0, m) := by rw [← H6.out.2.1, ldL, if_neg h0]
            have F : Hid _ := And.intro hE H6.out.2.2
            have HE : Hid (Calls Try.prog 57 #[.pointer (some ⟨gd, 0, none⟩)] wr fun e w' => e = .returned (.int .i64 0) ∧ wr = w') := by have := H6.out.1; unfold rdEnd at this; rw [if_pos rfl, if_neg h0] at this; exact this
            clear H6 hE h0
            go_wp2_with fail
            refine (Calls.mono HE.out) ?_
            rintro e _ ⟨rfl, rfl⟩
            go_wp2
            refine bodyPost_ret (v := .tuple #[.pointer (some ⟨r, 0, none⟩), .int .i64 0]) (by first | rfl | simp [results, Try.results19, go_sem]) rfl ?_
            exact .inr ⟨by rw [F.out.1], r, lb, V, rfl, by rw [F.out.1]; exact F.out.2.img, fun k hk => by rw [F.out.1] at hk; exact F.out.2.new k hk, F.out.2.below⟩
end Go.Proofs.Ytmkacgdbmojomaa

/- extent, the document's: Diff. -/
namespace Go.Proofs.Ytmkacgdbmojomaa
open Go.RowKit
set_option linter.unusedVariables false
set_option linter.unusedSimpArgs false
set_option maxRecDepth 8000

/-- the changes that make o of m, below k -/
def dfM (m o : Im) : Nat → List (Int × List (BitVec 8))
  | 0 => []
  | k + 1 => dfM m o k ++ (if m.by k = o.by k then [] else [((k : Int), o.by k)])
theorem dfM_len (m o : Im) (k : Nat) : (dfM m o k).length ≤ k := by
  induction k with
  | zero => exact Nat.le_refl _
  | succ k ih =>
    unfold dfM
    rw [List.length_append]
    by_cases h : m.by k = o.by k
    · rw [if_pos h]; simp; omega
    · rw [if_neg h]; simp; omega
theorem ri_head {w : World} {r lb : Nat} {V : List Nat} {m : Im} (h : (ri r lb V m).Ok w) : w.cell? ⟨r, 0, none⟩ = some (.slice (some ⟨lb, 0, none⟩) m.n m.n) := by
  obtain ⟨-, -, h1, -⟩ := h.holds
  have := h1.cell (by simp [maxLen]) 0 (by simp)
  simpa using this
theorem ri_cell {w : World} {r lb : Nat} {V : List Nat} {m : Im} (h : (ri r lb V m).Ok w) (hm : m.n ≤ 256) {i : Nat} (hi : i < m.n) : ∃ a cap, w.cell? ⟨lb, i, none⟩ = some (.slice a (m.by i).length cap) ∧ (m.by i).length ≤ cap ∧ (a = none → cap = 0) ∧ Row w a (m.by i) := by
  obtain ⟨-, -, -, vs, h2, h3, h4⟩ := h.holds
  obtain ⟨a, cap, e, q1, q2, q3, -⟩ := h4 i hi
  refine ⟨a, cap, ?_, q1, q2, q3⟩
  rw [h3.cell (by unfold maxLen; omega) i (by omega), e]
theorem by_len {m : Im} (h : m.Wf) (i : Nat) : (m.by i).length = 0 ∨ (m.by i).length = 64 := by
  unfold Im.by
  cases hf : m.f i with
  | none => exact .inl rfl
  | some l => exact .inr (h.each i l hf).2
def DfR (l : List (Int × List (BitVec 8))) (w : World) (e : Ending) (w' : World) : Prop :=
  ∃ v T, e = .returned (.tuple #[v, .int .i64 0]) ∧ T.map (·.1) = l ∧ CsOwn w' w.heap.size v T ∧ Below w.heap.size w w'
theorem str_conv {w : World} {a : Option Addr} {c : Nat} {l : List (BitVec 8)} (h : Row w a l) : ∀ X, Below w.heap.size w X → (convert 31 9 (.slice a l.length c)).run Try.prog X = .ok (.string (str l)) X := fun X hX => (h.later hX).str _ _ rfl
theorem str_neq {a b : List (BitVec 8)} (h : a ≠ b) : ((str a).toList == (str b).toList) = false := by rw [str_inj]; simpa using h
set_option maxHeartbeats 16000000 in
theorem riDiff_any (r1 b1 : Nat) (V1 : List Nat) (m1 : Im) (r2 b2 : Nat) (V2 : List Nat) (m2 : Im) (w : World) (h1 : (ri r1 b1 V1 m1).Ok w) (h2 : (ri r2 b2 V2 m2).Ok w) (hw1 : m1.Wf) (hw2 : m2.Wf) (hn : m2.n = m1.n) :
    Calls Try.prog 24 #[.pointer (some ⟨r1, 0, none⟩), .pointer (some ⟨r2, 0, none⟩)] w fun e w' => DfR (dfM m1 m2 m1.n) w e w' := by
  have c1 := ri_head h1
  have c2 := ri_head h2
  rw [hn] at c2
  have hm := hw1.most
  have HP : Hid _ := And.intro h1 (And.intro h2 (And.intro hw1 (And.intro hw2 hn)))
  clear h1 h2 hw1 hw2
  generalize hN : m1.n = N at *
  go_enter Try.func24, Try.ntmps24
  go_wp2_with fail
  go_quiet (fail)
  go_wp2_with fail
  go_loopw [6, 7] (fun ov iv wr => ∃ (k : Nat) (T : List Tc) (v : Value), v = ov ∧ k ≤ N ∧ iv = .int .i64 k ∧ T.map (·.1) = dfM m1 m2 k ∧ CsOwn wr w.heap.size v T ∧ Below w.heap.size w wr) (fun _ iv _ => N - (intOf iv).toNat)
  case atStart => exact ⟨0, [], _, rfl, Nat.zero_le _, rfl, rfl, CsOwn.nil _ _, below_drewN _ _ _⟩
  case round =>
    obtain ⟨k, T, v, rfl, hk, rfl, hT, hown, hb⟩ := hrel
    by_cases hlt : k < N
    · have q1 : (k : Int) < (N : Int) := by omega
      obtain ⟨x1, d1, y1, le1, nl1, w1⟩ := ri_cell HP.out.1 (by omega) (i := k) (by omega)
      obtain ⟨x2, d2, y2, le2, nl2, w2⟩ := ri_cell HP.out.2.1 (by omega) (i := k) (by omega)
      have s1 := str_conv (c := d1) (w1.later hb)
      have s2 := str_conv (c := d2) (w2.later hb)
      have z1 := cell_later hb c1
      have z2 := cell_later hb c2
      have y1 := cell_later hb y1
      have y2 := cell_later hb y2
      have hbl := by_len HP.out.2.2.2.1 k
      have HX2 : Hid _ := hbl
      have hstep : dfM m1 m2 (k + 1) = dfM m1 m2 k ++ (if m1.by k = m2.by k then [] else [((k : Int), m2.by k)]) := rfl
      have HR2 : Hid _ := And.intro (w2.later hb) (And.intro le2 nl2)
      clear w1 w2 le1 le2 nl1 nl2
      generalize m1.by k = B1 at *
      generalize m2.by k = B2 at *
      have HX : Hid _ := And.intro hT (And.intro hown (And.intro hb (And.intro hstep hbl)))
      clear hT hown hb hstep hbl
      have Sd : Below wr.heap.size wr wr.drew := (Below.refl _ _).drew
      by_cases heq : B1 = B2
      · subst heq
        have e7 : (str B1).toList = (str B1).toList := rfl
        have F : Hid _ := And.intro (show T.map (·.1) = dfM m1 m2 (k + 1) by rw [HX.out.2.2.2.1, if_pos rfl, List.append_nil]; exact HX.out.1) (And.intro (HX.out.2.1.later (Below.refl _ _).drew) (below_then HX.out.2.2.1 (Below.refl _ _).drew))
        go_wp2_with fail
        refine wp_region_held_drew (S := fun W => Below wr.heap.size wr W ∧ W.cell? ⟨r1, 0, none⟩ = some (.slice (some ⟨b1, 0, none⟩) N N) ∧ W.cell? ⟨r2, 0, none⟩ = some (.slice (some ⟨b2, 0, none⟩) N N) ∧ W.cell? ⟨b1, k, none⟩ = some (.slice x1 B1.length d1) ∧ W.cell? ⟨b2, k, none⟩ = some (.slice x2 B1.length d2)) (by kernel_rfl) (⟨Sd, z1, z2, y1, y2⟩) (fun hS => ?_)
        refine any_take (i := 0) (v := ?_) rfl (by kernel_rfl) (by kernel_rfl) (by kernel_rfl) (by exact fun _ _ _ h => h) (by rfl) ?_ hS ?_
        rotate_left
        · ((intro w hSw; (try dsimp only at hSw); go_simp) <;> with_reducible rfl)
        (try simp only [Act.put, List.setIfInBounds_toArray, List.set_cons_zero, List.set_cons_succ])
        refine any_take (i := 1) (v := ?_) rfl (by kernel_rfl) (by kernel_rfl) (by kernel_rfl) (by exact fun _ _ _ h => h) (by rfl) ?_ hS ?_
        rotate_left
        · ((intro w hSw; (try dsimp only at hSw); go_simp) <;> with_reducible rfl)
        (try simp only [Act.put, List.setIfInBounds_toArray, List.set_cons_zero, List.set_cons_succ])
        refine any_take (i := 2) (v := ?_) rfl (by kernel_rfl) (by kernel_rfl) (by kernel_rfl) (by exact fun _ _ _ h => h) (by rfl) ?_ hS ?_
        rotate_left
        · ((intro w hSw; (try dsimp only at hSw); go_simp) <;> with_reducible rfl)
        (try simp only [Act.put, List.setIfInBounds_toArray, List.set_cons_zero, List.set_cons_succ])
        refine any_take (i := 3) (v := ?_) rfl (by kernel_rfl) (by kernel_rfl) (by kernel_rfl) (by exact fun _ _ _ h => h) (by rfl) ?_ hS ?_
        rotate_left
        · ((intro w hSw; (try dsimp only at hSw); go_simp) <;> with_reducible rfl)
        (try simp only [Act.put, List.setIfInBounds_toArray, List.set_cons_zero, List.set_cons_succ])
        refine any_take (i := 4) (v := ?_) rfl (by kernel_rfl) (by kernel_rfl) (by kernel_rfl) (by exact fun _ _ _ h => h) (by rfl) ?_ hS ?_
        rotate_left
        · ((intro w hSw; (try dsimp only at hSw); go_simp) <;> with_reducible rfl)
        (try simp only [Act.put, List.setIfInBounds_toArray, List.set_cons_zero, List.set_cons_succ])
        refine any_take (i := 5) (v := ?_) rfl (by kernel_rfl) (by kernel_rfl) (by kernel_rfl) (by exact fun _ _ _ h => h) (by rfl) ?_ hS ?_
        rotate_left
        · ((intro w hSw; (try dsimp only at hSw); go_simp) <;> with_reducible rfl)
        (try simp only [Act.put, List.setIfInBounds_toArray, List.set_cons_zero, List.set_cons_succ])
        refine any_take (i := 6) (v := ?_) rfl (by kernel_rfl) (by kernel_rfl) (by kernel_rfl) (by exact fun _ _ _ h => h) (by rfl) ?_ hS ?_
        rotate_left
        · ((intro w hSw; (try dsimp only at hSw); go_simp) <;> with_reducible rfl)
        (try simp only [Act.put, List.setIfInBounds_toArray, List.set_cons_zero, List.set_cons_succ])
        refine any_take (i := 7) (v := ?_) rfl (by kernel_rfl) (by kernel_rfl) (by kernel_rfl) (by exact fun _ _ _ h => h) (by rfl) ?_ hS ?_
        rotate_left
        · ((intro w hSw; (try dsimp only at hSw); go_simp) <;> with_reducible rfl)
        (try simp only [Act.put, List.setIfInBounds_toArray, List.set_cons_zero, List.set_cons_succ])
        refine any_take (i := 8) (v := ?_) rfl (by kernel_rfl) (by kernel_rfl) (by kernel_rfl) (by exact fun _ _ _ h => h) (by rfl) ?_ hS ?_
        rotate_left
        · ((intro w hSw; (try dsimp only at hSw); go_simp) <;> with_reducible rfl)
        (try simp only [Act.put, List.setIfInBounds_toArray, List.set_cons_zero, List.set_cons_succ])
        refine any_take (i := 9) (v := ?_) rfl (by kernel_rfl) (by kernel_rfl) (by kernel_rfl) (by exact fun _ _ _ h => h) (by rfl) ?_ hS ?_
        rotate_left
        · ((intro w hSw; (try dsimp only at hSw); go_simp) <;> with_reducible rfl)
        (try simp only [Act.put, List.setIfInBounds_toArray, List.set_cons_zero, List.set_cons_succ])
        refine any_take (i := 10) (v := ?_) rfl (by kernel_rfl) (by kernel_rfl) (by kernel_rfl) (by exact fun _ _ _ h => h) (by rfl) ?_ hS ?_
        rotate_left
        · ((intro w hSw; (try dsimp only at hSw); go_simp) <;> with_reducible rfl)
        (try simp only [Act.put, List.setIfInBounds_toArray, List.set_cons_zero, List.set_cons_succ])
        refine any_take (i := 11) (v := ?_) rfl (by kernel_rfl) (by kernel_rfl) (by kernel_rfl) (by exact fun _ _ _ h => h) (by rfl) ?_ hS ?_
        rotate_left
        · ((intro w hSw; (try dsimp only at hSw); go_simp) <;> with_reducible rfl)
        (try simp only [Act.put, List.setIfInBounds_toArray, List.set_cons_zero, List.set_cons_succ])
        refine any_take (i := 12) (v := ?_) rfl (by kernel_rfl) (by kernel_rfl) (by kernel_rfl) (by exact fun _ _ _ h => h) (by rfl) ?_ hS ?_
        rotate_left
        · ((intro w hSw; (try dsimp only at hSw); go_simp) <;> with_reducible rfl)
        (try simp only [Act.put, List.setIfInBounds_toArray, List.set_cons_zero, List.set_cons_succ])
        refine any_take (i := 13) (v := ?_) rfl (by kernel_rfl) (by kernel_rfl) (by kernel_rfl) (by exact fun _ _ _ h => h) (by rfl) ?_ hS ?_
        rotate_left
        · ((intro w hSw; (try dsimp only at hSw); go_simp) <;> with_reducible rfl)
        (try simp only [Act.put, List.setIfInBounds_toArray, List.set_cons_zero, List.set_cons_succ])
        refine any_take (i := 14) (v := ?_) rfl (by kernel_rfl) (by kernel_rfl) (by kernel_rfl) (by exact fun _ _ _ h => h) (by rfl) ?_ hS ?_
        rotate_left
        · ((intro w hSw; (try dsimp only at hSw); go_simp) <;> with_reducible rfl)
        (try simp only [Act.put, List.setIfInBounds_toArray, List.set_cons_zero, List.set_cons_succ])
        refine any_take (i := 15) (v := ?_) rfl (by kernel_rfl) (by kernel_rfl) (by kernel_rfl) (by exact fun _ _ _ h => h) (by rfl) ?_ hS ?_
        rotate_left
        · ((intro w hSw; (try dsimp only at hSw); go_simp) <;> with_reducible rfl)
        (try simp only [Act.put, List.setIfInBounds_toArray, List.set_cons_zero, List.set_cons_succ])
        refine any_take (i := 16) (v := ?_) rfl (by kernel_rfl) (by kernel_rfl) (by kernel_rfl) (by exact fun _ _ _ h => h) (by rfl) ?_ hS ?_
        rotate_left
        · ((intro w hSw; (try dsimp only at hSw); go_simp) <;> with_reducible rfl)
        (try simp only [Act.put, List.setIfInBounds_toArray, List.set_cons_zero, List.set_cons_succ])
        refine wpAnyH_done (by kernel_rfl) ?_ _
        go_wp2
        go_roundw
        case rel => exact ⟨k + 1, T, v, rfl, by omega, by go_num, F.out.1, F.out.2.1, F.out.2.2⟩
        case measure => simp [intOf]; omega
      · have hstepN : Hid (dfM m1 m2 (k + 1) = dfM m1 m2 k ++ [((k : Int), B2)]) := by rw [HX.out.2.2.2.1, if_neg heq]; exact rfl
        have HB2 : Hid (B2.length ≤ 64) := by have := HX2.out; unfold Hid; omega
        have e7 := str_neq heq
        go_wp2_with fail
        refine wp_region_held_drew (S := fun W => Below wr.heap.size wr W ∧ W.cell? ⟨r1, 0, none⟩ = some (.slice (some ⟨b1, 0, none⟩) N N) ∧ W.cell? ⟨r2, 0, none⟩ = some (.slice (some ⟨b2, 0, none⟩) N N) ∧ W.cell? ⟨b1, k, none⟩ = some (.slice x1 B1.length d1) ∧ W.cell? ⟨b2, k, none⟩ = some (.slice x2 B2.length d2)) (by kernel_rfl) (⟨Sd, z1, z2, y1, y2⟩) (fun hS => ?_)
        refine any_take (i := 0) (v := ?_) rfl (by kernel_rfl) (by kernel_rfl) (by kernel_rfl) (by exact fun _ _ _ h => h) (by rfl) ?_ hS ?_
        rotate_left
        · ((intro w hSw; (try dsimp only at hSw); go_simp) <;> with_reducible rfl)
        (try simp only [Act.put, List.setIfInBounds_toArray, List.set_cons_zero, List.set_cons_succ])
        refine any_take (i := 1) (v := ?_) rfl (by kernel_rfl) (by kernel_rfl) (by kernel_rfl) (by exact fun _ _ _ h => h) (by rfl) ?_ hS ?_
        rotate_left
        · ((intro w hSw; (try dsimp only at hSw); go_simp) <;> with_reducible rfl)
        (try simp only [Act.put, List.setIfInBounds_toArray, List.set_cons_zero, List.set_cons_succ])
        refine any_take (i := 2) (v := ?_) rfl (by kernel_rfl) (by kernel_rfl) (by kernel_rfl) (by exact fun _ _ _ h => h) (by rfl) ?_ hS ?_
        rotate_left
        · ((intro w hSw; (try dsimp only at hSw); go_simp) <;> with_reducible rfl)
        (try simp only [Act.put, List.setIfInBounds_toArray, List.set_cons_zero, List.set_cons_succ])
        refine any_take (i := 3) (v := ?_) rfl (by kernel_rfl) (by kernel_rfl) (by kernel_rfl) (by exact fun _ _ _ h => h) (by rfl) ?_ hS ?_
        rotate_left
        · ((intro w hSw; (try dsimp only at hSw); go_simp) <;> with_reducible rfl)
        (try simp only [Act.put, List.setIfInBounds_toArray, List.set_cons_zero, List.set_cons_succ])
        refine any_take (i := 4) (v := ?_) rfl (by kernel_rfl) (by kernel_rfl) (by kernel_rfl) (by exact fun _ _ _ h => h) (by rfl) ?_ hS ?_
        rotate_left
        · ((intro w hSw; (try dsimp only at hSw); go_simp) <;> with_reducible rfl)
        (try simp only [Act.put, List.setIfInBounds_toArray, List.set_cons_zero, List.set_cons_succ])
        refine any_take (i := 5) (v := ?_) rfl (by kernel_rfl) (by kernel_rfl) (by kernel_rfl) (by exact fun _ _ _ h => h) (by rfl) ?_ hS ?_
        rotate_left
        · ((intro w hSw; (try dsimp only at hSw); go_simp) <;> with_reducible rfl)
        (try simp only [Act.put, List.setIfInBounds_toArray, List.set_cons_zero, List.set_cons_succ])
        refine any_take (i := 6) (v := ?_) rfl (by kernel_rfl) (by kernel_rfl) (by kernel_rfl) (by exact fun _ _ _ h => h) (by rfl) ?_ hS ?_
        rotate_left
        · ((intro w hSw; (try dsimp only at hSw); go_simp) <;> with_reducible rfl)
        (try simp only [Act.put, List.setIfInBounds_toArray, List.set_cons_zero, List.set_cons_succ])
        refine any_take (i := 7) (v := ?_) rfl (by kernel_rfl) (by kernel_rfl) (by kernel_rfl) (by exact fun _ _ _ h => h) (by rfl) ?_ hS ?_
        rotate_left
        · ((intro w hSw; (try dsimp only at hSw); go_simp) <;> with_reducible rfl)
        (try simp only [Act.put, List.setIfInBounds_toArray, List.set_cons_zero, List.set_cons_succ])
        refine any_take (i := 8) (v := ?_) rfl (by kernel_rfl) (by kernel_rfl) (by kernel_rfl) (by exact fun _ _ _ h => h) (by rfl) ?_ hS ?_
        rotate_left
        · ((intro w hSw; (try dsimp only at hSw); go_simp) <;> with_reducible rfl)
        (try simp only [Act.put, List.setIfInBounds_toArray, List.set_cons_zero, List.set_cons_succ])
        refine any_take (i := 9) (v := ?_) rfl (by kernel_rfl) (by kernel_rfl) (by kernel_rfl) (by exact fun _ _ _ h => h) (by rfl) ?_ hS ?_
        rotate_left
        · ((intro w hSw; (try dsimp only at hSw); go_simp) <;> with_reducible rfl)
        (try simp only [Act.put, List.setIfInBounds_toArray, List.set_cons_zero, List.set_cons_succ])
        refine any_take (i := 10) (v := ?_) rfl (by kernel_rfl) (by kernel_rfl) (by kernel_rfl) (by exact fun _ _ _ h => h) (by rfl) ?_ hS ?_
        rotate_left
        · ((intro w hSw; (try dsimp only at hSw); go_simp) <;> with_reducible rfl)
        (try simp only [Act.put, List.setIfInBounds_toArray, List.set_cons_zero, List.set_cons_succ])
        refine any_take (i := 11) (v := ?_) rfl (by kernel_rfl) (by kernel_rfl) (by kernel_rfl) (by exact fun _ _ _ h => h) (by rfl) ?_ hS ?_
        rotate_left
        · ((intro w hSw; (try dsimp only at hSw); go_simp) <;> with_reducible rfl)
        (try simp only [Act.put, List.setIfInBounds_toArray, List.set_cons_zero, List.set_cons_succ])
        refine any_take (i := 12) (v := ?_) rfl (by kernel_rfl) (by kernel_rfl) (by kernel_rfl) (by exact fun _ _ _ h => h) (by rfl) ?_ hS ?_
        rotate_left
        · ((intro w hSw; (try dsimp only at hSw); go_simp) <;> with_reducible rfl)
        (try simp only [Act.put, List.setIfInBounds_toArray, List.set_cons_zero, List.set_cons_succ])
        refine any_take (i := 13) (v := ?_) rfl (by kernel_rfl) (by kernel_rfl) (by kernel_rfl) (by exact fun _ _ _ h => h) (by rfl) ?_ hS ?_
        rotate_left
        · ((intro w hSw; (try dsimp only at hSw); go_simp) <;> with_reducible rfl)
        (try simp only [Act.put, List.setIfInBounds_toArray, List.set_cons_zero, List.set_cons_succ])
        refine any_take (i := 14) (v := ?_) rfl (by kernel_rfl) (by kernel_rfl) (by kernel_rfl) (by exact fun _ _ _ h => h) (by rfl) ?_ hS ?_
        rotate_left
        · ((intro w hSw; (try dsimp only at hSw); go_simp) <;> with_reducible rfl)
        (try simp only [Act.put, List.setIfInBounds_toArray, List.set_cons_zero, List.set_cons_succ])
        refine any_take (i := 15) (v := ?_) rfl (by kernel_rfl) (by kernel_rfl) (by kernel_rfl) (by exact fun _ _ _ h => h) (by rfl) ?_ hS ?_
        rotate_left
        · ((intro w hSw; (try dsimp only at hSw); go_simp) <;> with_reducible rfl)
        (try simp only [Act.put, List.setIfInBounds_toArray, List.set_cons_zero, List.set_cons_succ])
        refine any_take (i := 16) (v := ?_) rfl (by kernel_rfl) (by kernel_rfl) (by kernel_rfl) (by exact fun _ _ _ h => h) (by rfl) ?_ hS ?_
        rotate_left
        · ((intro w hSw; (try dsimp only at hSw); go_simp) <;> with_reducible rfl)
        (try simp only [Act.put, List.setIfInBounds_toArray, List.set_cons_zero, List.set_cons_succ])
        refine wpAnyH_done (by kernel_rfl) ?_ _
        go_wp2_with (at_builtin; refine wpList_append_bytes _ rfl _ _ rfl wr.heap.size (.slice none 0 0) [] rfl (Own.nil _ _) x2 B2.length d2 B2 rfl rfl (HR2.out.1.later Sd) HR2.out.2.2 HR2.out.2.1 (by simp only [List.length_nil]; have := HX.out.2.2.2.2; have hbb := HB2.out; omega) (Nat.le_refl _) ?_)
        intro v2 w2 ho2 hg2
        have hb2 : Below wr.heap.size wr w2 := Sd.grown hg2 Sd.size (fun k e => by cases e)
        have hlo2 := World.ownsRow.lt ho2
        have hlv := World.ownsRow.lt HX.out.2.1.own
        have hwr := HX.out.2.2.1.size
        have hlp := fun (p' : Tc) (hp : p' ∈ T) => World.ownsRow.lt (HX.out.2.1.each p' hp)
        obtain ⟨xa, xc, e2, -⟩ := ho2.open
        subst e2
        have bA : Below w2.heap.size w2 (w2.alloc (.cells #[.int .i64 (k : Int), .slice xa B2.length xc] 57)) := (Below.refl _ _).alloc (Nat.le_refl _) _
        have BA : Blk (w2.alloc (.cells #[.int .i64 (k : Int), .slice xa B2.length xc] 57)) w2.heap.size 57 [.int .i64 (k : Int), .slice xa B2.length xc] := Blk.new' w2 _ _
        have bbA := below_then hb2 bA
        have hO : Own (w2.alloc (.cells #[.int .i64 (k : Int), .slice xa B2.length xc] 57)) w.heap.size (.slice xa B2.length xc) B2 := (own_base ho2 hwr).later bA
        have hfar : ∀ q, (Value.slice xa B2.length xc).ownBlock = some q → v.ownBlock ≠ some q ∧ ∀ p' ∈ T, p'.2.ownBlock ≠ some q := fun q hq => ⟨fun e => by have := (hlv q e).2; have := (hlo2 q hq).1; omega, fun p' hp e => by have := (hlp p' hp q e).2; have := (hlo2 q hq).1; omega⟩
        have hTl : T.length ≤ k := by have h0 := congrArg List.length HX.out.1; rw [List.length_map] at h0; have := dfM_len m1 m2 k; omega
        have HA : Hid _ := And.intro (HX.out.2.1.later bbA) (And.intro BA (And.intro hO (And.intro hfar (And.intro (Nat.le_trans hwr bbA.size) (And.intro hTl (below_then HX.out.2.2.1 bbA))))))
        have HL3 : Hid _ := And.intro (fun q hq => Nat.le_trans (Nat.le_refl _) (hlv q hq).1) hstepN.out
        clear bA BA bbA hO hfar hTl hlo2 hlv hlp hb2 ho2 hg2 hwr z1 z2 y1 y2 Sd s1 s2
        go_wp2_with (at_builtin; refine wpList_append_ch _ rfl _ _ rfl w.heap.size v T rfl HA.out.1 w2.heap.size (((k : Int), B2), Value.slice xa B2.length xc) (by first | rfl | simp) HA.out.2.1 HA.out.2.2.1 HA.out.2.2.2.1 (by have := HA.out.2.2.2.2.2.1; omega) HA.out.2.2.2.2.1 ?_)
        intro v' w3 hown3 hg3
        have F : Hid _ := And.intro (show (T ++ [(((k : Int), B2), Value.slice xa B2.length xc)]).map (·.1) = dfM m1 m2 (k + 1) by rw [HL3.out.2, List.map_append, HX.out.1]; rfl) (And.intro hown3 (HA.out.2.2.2.2.2.2.grown hg3 HA.out.2.2.2.2.2.2.size HL3.out.1))
        clear hown3 hg3 HA HL3
        go_wp2
        go_roundw
        case rel => exact ⟨k + 1, T ++ [(((k : Int), B2), Value.slice xa B2.length xc)], v', rfl, by omega, by go_num, F.out.1, F.out.2.1, F.out.2.2⟩
        case measure => simp [intOf]; omega
    · obtain rfl : k = N := by omega
      have q1 : ¬ ((k : Int) < (k : Int)) := by omega
      have F : Hid _ := And.intro hT (And.intro hown hb)
      clear hT hown hb hk hlt
      have z1 := cell_later F.out.2.2 c1
      go_wp2
      refine bodyPost_ret (v := .tuple #[v, .int .i64 0]) (by first | rfl | simp [results, Try.results24, go_sem]) rfl ?_
      exact ⟨v, T, rfl, F.out.1, F.out.2.1, F.out.2.2⟩
end Go.Proofs.Ytmkacgdbmojomaa
