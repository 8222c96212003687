/- LeaseOnce. -/
import Derived.Test.YtjelbekjmfnenaaOn2
import Derived.Test.YtjelbekjmfnenaaRdL1
import Derived.Deep.CutBlock
import Derived.Deep.CutRange
namespace Go.Proofs.Ytjelbekjmfnenaa
open Go.RowKit Go.Shelf
set_option linter.unusedVariables false
set_option linter.unusedSimpArgs false
set_option maxRecDepth 8000

abbrev ixs (l : List (Int × Int)) : List Int := l.map (·.2)
theorem Sep.join {B : Nat} {l : List Ob} {o : Ob} {w : World} (h : Sep B l w) (ho : o.Ok w) (hB : ∀ k ∈ o.W, B ≤ k) (hV : o.V = []) (hc : ∀ p ∈ l, ∀ k ∈ o.W, k ∉ p.W ∧ k ∉ p.V) : Sep B (o :: l) w := by
  refine ⟨fun p hp => ?_, fun p hp => ?_, List.pairwise_cons.2 ⟨fun p hp => ⟨fun k hk => hc p hp k hk, fun k _ e => by rw [hV] at e; cases e⟩, h.pair⟩, h.base⟩
  · rcases List.mem_cons.1 hp with rfl | hp
    · exact ho
    · exact h.each p hp
  · rcases List.mem_cons.1 hp with rfl | hp
    · exact hB
    · exact h.new p hp
/-- between two rounds -/
structure OnI (w : World) (g : Nat) (wv av : Value) (l : List (Int × Int)) (wr : World) : Prop where
  ex : ∃ q qw qa, Sep w.heap.size [rdOb g q l, nsOb wv qw (ids l), nsOb av qa (ixs l)] wr
  len : l.length ≤ 100
  nd : (ids l).Nodup
  top : ∀ x ∈ l, x.2 ≤ 9223372036854775807
  below : Below w.heap.size w wr
/-- when it is known who is told -/
structure OnT (w : World) (g : Nat) (wv av tv : Value) (m : Int) (l : List (Int × Int)) (P : Int × Int → Bool) (wr : World) : Prop where
  ex : ∃ q qw qa, Sep w.heap.size [nuOb tv (ids (l.filter P)), rdOb g q (l.filter (fun x => !P x)), nsOb wv qw (ids l), nsOb av qa (ixs l)] wr
  le : ∀ x ∈ l.filter P, x.2 ≤ m
  len : l.length ≤ 100
  nd : (ids l).Nodup
  top : ∀ x ∈ l, x.2 ≤ 9223372036854775807
  below : Below w.heap.size w wr
theorem on_none {w wr : World} {g : Nat} {wv av : Value} {l : List (Int × Int)} (h : OnI w g wv av l wr) : OnT w g wv av (.slice none 0 0) 9223372036854775807 l (fun _ => false) wr := by
  obtain ⟨q, qw, qa, hs⟩ := h.ex
  have e1 : l.filter (fun _ => false) = [] := by simp
  have e2 : l.filter (fun x => !(fun _ => false) x) = l := by simp
  refine ⟨⟨q, qw, qa, ?_⟩, by simp, h.len, h.nd, h.top, h.below⟩
  rw [e1, e2]
  exact hs.join (nuOb_ok (NOwn.nil wr)) (fun k hk => by simp [nuOb, Value.ownBlock] at hk) rfl (fun p _ k hk => by simp [nuOb, Value.ownBlock] at hk)
/-- some are told -/
theorem on_told {w w3 x1 : World} {g : Nat} {q q1 qw qa : Option Nat} {wv av tv : Value} {l : List (Int × Int)} {P : Int × Int → Bool} {m : Int} (hs : Sep w.heap.size [rdOb g q l, nsOb wv qw (ids l), nsOb av qa (ixs l)] w3) (st : Step w3 x1 (rdOb g q l) (rdOb g q1 (l.filter (fun x => !P x)))) (ho : NOwn x1 tv (ids (l.filter P))) (hf : ∀ b, tv.ownBlock = some b → w3.heap.size ≤ b ∧ q1 ≠ some b)
    (hle : ∀ x ∈ l.filter P, x.2 ≤ m) (hl : l.length ≤ 100) (hn : (ids l).Nodup) (ht : ∀ x ∈ l, x.2 ≤ 9223372036854775807) (hb : Below w.heap.size w w3) : OnT w g wv av tv m l P x1 := by
  have S1 := hs.step st
  have hz := hs.base
  refine ⟨⟨q1, qw, qa, S1.join (nuOb_ok ho) (fun k hk => ?_) rfl (fun p hp k hk => ?_)⟩, hle, hl, hn, ht, hb.trans (hs.below st)⟩
  · simp only [nuOb, Option.mem_toList] at hk
    have := (hf k hk).1; omega
  · simp only [nuOb, Option.mem_toList] at hk
    obtain ⟨h1, h2⟩ := hf k hk
    simp only [List.mem_cons, List.not_mem_nil, or_false] at hp
    rcases hp with rfl | rfl | rfl
    · refine ⟨fun e => ?_, (fun e => by cases e)⟩
      simp only [rdOb, qu, List.mem_cons, Option.mem_toList] at e
      rcases e with e | e
      · have := (hs.head).lt g (.inl (by simp [rdOb, qu])); omega
      · exact h2 e
    · exact ⟨fun e => by have := (hs.each (nsOb wv qw (ids l)) (by simp)).lt k (.inl e); omega, (fun e => by cases e)⟩
    · exact ⟨fun e => by have := (hs.each (nsOb av qa (ixs l)) (by simp)).lt k (.inl e); omega, (fun e => by cases e)⟩
/-- what is told goes: between two rounds -/
structure OnG (w : World) (g : Nat) (tv : Value) (T : List Int) (l : List (Int × Int)) (l' : List (Int × Int)) (wv av : Value) (j : Nat) (wr : World) : Prop where
  ex : ∃ q qw qa, Sep w.heap.size [nuOb tv T, rdOb g q l', nsOb wv qw (ids (leftK l T j)), nsOb av qa (ixs (leftK l T j))] wr
  below : Below w.heap.size w wr
theorem sep_third {B : Nat} {t r a a' b : Ob} {w w' : World} (h : Sep B [t, r, a, b] w) (s : Step w w' a a') : Sep B [t, r, a', b] w' ∧ Below B w w' := by
  have h1 := h.third
  exact ⟨(h1.step s).third.third, h1.below s⟩
theorem sep_fourth {B : Nat} {t r a b b' : Ob} {w w' : World} (h : Sep B [t, r, a, b] w) (s : Step w w' b b') : Sep B [t, r, a, b'] w' ∧ Below B w w' := by
  have h1 : Sep B (b :: [t, r, a]) w := h.perm (List.perm_append_singleton b [t, r, a])
  exact ⟨(h1.step s).perm (List.perm_append_singleton b' [t, r, a]).symm, h1.below s⟩
theorem idx_snd {l : List (Int × Int)} {x : Int × Int} (h : (ids l).Nodup) (hx : x ∈ l) : (ixs l)[(ids l).idxOf x.1]? = some x.2 ∧ (ids l).idxOf x.1 < l.length := by
  obtain ⟨n, hn, e1, e2⟩ := place_self h hx
  rw [e2]
  exact ⟨by simp [hn, e1], hn⟩
theorem erase_maps {c c' : List (Int × Int)} {j : Nat} (h : c' = c.eraseIdx j) : ids c' = (ids c).eraseIdx j ∧ ixs c' = (ixs c).eraseIdx j := by
  subst h
  constructor
  · show List.map (fun x : Int × Int => x.1) (c.eraseIdx j) = (List.map (fun x : Int × Int => x.1) c).eraseIdx j
    rw [List.eraseIdx_eq_take_drop_succ, List.eraseIdx_eq_take_drop_succ, List.map_append, List.map_take, List.map_drop]
  · show List.map (fun x : Int × Int => x.2) (c.eraseIdx j) = (List.map (fun x : Int × Int => x.2) c).eraseIdx j
    rw [List.eraseIdx_eq_take_drop_succ, List.eraseIdx_eq_take_drop_succ, List.map_append, List.map_take, List.map_drop]
/-- who is told next stands behind the last one -/
structure LastOk (l K : List (Int × Int)) (j : Nat) (la : Int) : Prop where
  lo : -1 ≤ la
  hi : la ≤ 1000
  next : ∀ i (hi : i < K.length), j ≤ i → la < ((ids l).idxOf K[i].1 : Int)
set_option maxHeartbeats 16000000 in
theorem leaseOnce_walk (sa : Option Addr) (sl sc : Nat) (w : World) (S : TArg w sa sl sc) :
    Calls Try.prog 6 #[.slice sa sl sc] w fun e w' => e = .returned (.bool true) ∧ Below w.heap.size w w' := by
  have H1 : Hid _ := rdNew_any w
  have HS : Hid _ := S
  have HK : Hid _ := known11_any
  clear S
  go_enter Try.func6, Try.ntmps6
  go_wp2_with fail
  refine (Calls.mono H1.out) ?_
  rintro e w1 ⟨g, rfl, hg, ho1, b1⟩
  have S1 : Sep w.heap.size [rdOb g none []] w1 := Sep.nil.fresh b1 ho1 (fun k hk => by
    rcases hk with hk | hk
    · simp only [rdOb, qu, List.mem_cons, Option.mem_toList, reduceCtorEq, or_false] at hk; omega
    · cases hk)
  have S2 : Sep w.heap.size [rdOb g none [], nsOb (.slice none 0 0) none (ids []), nsOb (.slice none 0 0) none (ixs [])] w1 := by
    have A := (S1.fresh (Below.refl _ _) (nsOb_ok (NSl.nil w1)) (fun k hk => by rcases hk with hk | hk <;> simp [nsOb] at hk))
    have B := A.fresh (Below.refl _ _) (nsOb_ok (NSl.nil w1)) (fun k hk => by rcases hk with hk | hk <;> simp [nsOb] at hk)
    exact B.third
  have I0 : Hid (OnI w g (.slice none 0 0) (.slice none 0 0) [] w1) := ⟨⟨none, none, none, S2⟩, by simp, by simp, (fun x hx => by cases hx), b1⟩
  clear H1 ho1 b1 S1 S2 hg
  go_wp2_with fail
  go_loopw [4, 5, 6] (fun wv av iv wr => ∃ (k : Nat) (l : List (Int × Int)), iv = .int .i64 k ∧ k ≤ 100 ∧ OnI w g wv av l wr) (fun _ _ iv _ => 100 - (intOf iv).toNat)
  case atStart => exact ⟨0, [], rfl, by omega, I0.out⟩
  case round =>
    clear I0
    obtain ⟨k, l, rfl, hk, hI⟩ := hrel
    have HI : Hid _ := hI
    clear hI
    by_cases hcc : k < sl ∧ k < 100
    · obtain ⟨c1, c2⟩ := hcc
      obtain ⟨sb, so, rfl, hss⟩ := HS.out.each (by omega)
      obtain ⟨kd, a, b, x1, x2, x3, hk6, ha6, hb6⟩ := hss k c1
      have y1 := cell_later HI.out.below x1
      have y2 := cell_later HI.out.below x2
      have y3 := cell_later HI.out.below x3
      have q1 : (k : Int) < sl := by omega
      have q2 : (k : Int) < 100 := by omega
      have bn : Below wr.heap.size wr (wr.alloc (.cells #[.int .i64 kd, .int .i64 a, .int .i64 b] 48)) := (Below.refl _ _).alloc (Nat.le_refl _) _
      have N := Blk.new' wr 48 [.int .i64 kd, .int .i64 a, .int .i64 b]
      have n0 := blk_at N 0
      have n1 := blk_at N 1
      have n2 := blk_at N 2
      simp only [List.getElem?_cons_zero, List.getElem?_cons_succ] at n0 n1 n2
      obtain ⟨q, qw, qa, hs⟩ := HI.out.ex
      have hsz : Hid _ := fun (o : Ob) (ho : o ∈ [rdOb g q l, nsOb u4 qw (ids l), nsOb u5 qa (ixs l)]) (k : Nat) (hk : k ∈ o.W) => (hs.each o ho).lt k (.inl hk)
      have HG : Hid _ := And.intro (hs.later bn) (And.intro HI.out.len (And.intro HI.out.nd (And.intro HI.out.top (And.intro (below_then HI.out.below bn) N))))
      clear hss x1 x2 x3 bn N hs HI
      go_upto_block 2 with fail
      generalize wr.alloc (.cells #[.int .i64 kd, .int .i64 a, .int .i64 b] 48) = w3 at *
      generalize hrc : wr.heap.size = rc at *
      go_cut [4, 5, 8, 9] from 18 to 130 (fun wv av tv mv wx => ∃ l P m, mv = .int .i64 m ∧ OnT w g wv av tv m l P wx)
      case first =>
        by_cases hk0 : kd = 0 ∨ kd = 1 ∨ kd = 2
        · rcases hk0 with rfl | rfl | rfl
          · have HA : Hid _ := rdAsk_any g q l a b w3 HG.out.1.head HG.out.2.1
            go_wp2_with fail
            refine (Calls.mono HA.out) ?_
            rintro e x1 ⟨q1, rfl, st1⟩
            have S1 := HG.out.1.step st1
            have bb1 := HG.out.2.2.2.2.1.trans (HG.out.1.below st1)
            have N1 := HG.out.2.2.2.2.2.turned st1.turned (fun e => by have := hsz.out (rdOb g q l) (by simp) _ e; omega)
            have nd1 := nd_ask HG.out.2.2.1 a b
            have tp1 := askTo_top (a := a) HG.out.2.2.2.1 hb6.2
            have ln1 := askTo_len HG.out.2.1 a b
            have z1 := blk_at N1 1
            have z2 := blk_at N1 2
            simp only [List.getElem?_cons_zero, List.getElem?_cons_succ] at z1 z2
            by_cases he : askE l a b = 0
            · rw [he]
              have eT : askTo l a b = l ++ [(a, b)] := by unfold askTo; rw [if_pos he]
              rw [eT] at S1 nd1 tp1 ln1
              have hw1 := S1.swap.head.holds
              have ha1 := S1.third.head.holds
              have bnA : Below x1.heap.size x1 (x1.alloc (.cells #[.int .i64 a] 2)) := (Below.refl _ _).alloc (Nat.le_refl _) _
              obtain ⟨v5, w5, p5, hr1, ho5, hg5, hor5⟩ := NSl.append (NSl.later hw1 bnA) x1.heap.size a (Blk.new' x1 2 [.int .i64 a]) (by have := HG.out.2.1; simp; omega) 33
              have stA : Step x1 w5 (nsOb u4 qw (ids l)) (nsOb v5 p5 (ids l ++ [a])) := (Step.quiet (nsOb_ok hw1) bnA).trans (ns_step (NSl.later hw1 bnA) ho5 hg5 hor5)
              have S5 := (S1.swap.step stA).swap
              have bb5 := bb1.trans (S1.swap.below stA)
              have N5 := N1.turned stA.turned (fun e => by have := hsz.out (nsOb u4 qw (ids l)) (by simp) _ e; omega)
              have z52 := blk_at N5 2
              simp only [List.getElem?_cons_zero, List.getElem?_cons_succ] at z52
              have ha5 := S5.third.head.holds
              have bnB : Below w5.heap.size w5 (w5.alloc (.cells #[.int .i64 b] 2)) := (Below.refl _ _).alloc (Nat.le_refl _) _
              obtain ⟨v8, w8, p8, hr2, ho8, hg8, hor8⟩ := NSl.append (NSl.later ha5 bnB) w5.heap.size b (Blk.new' w5 2 [.int .i64 b]) (by have := HG.out.2.1; simp; omega) 33
              have stB : Step w5 w8 (nsOb u5 qa (ixs l)) (nsOb v8 p8 (ixs l ++ [b])) := (Step.quiet (nsOb_ok ha5) bnB).trans (ns_step (NSl.later ha5 bnB) ho8 hg8 hor8)
              have S8 := (S5.third.step stB).third.third
              have bb8 := bb5.trans (S5.third.below stB)
              have eI : ids (l ++ [(a, b)]) = ids l ++ [a] := by simp
              have eX : ixs (l ++ [(a, b)]) = ixs l ++ [b] := by simp
              have R : Hid (OnI w g v5 v8 (l ++ [(a, b)]) w8) := ⟨⟨_, _, _, by rw [eI, eX]; exact S8⟩, ln1, nd1, tp1, bb8⟩
              clear S1 bb1 N1 nd1 tp1 ln1 hw1 ha1 bnA ho5 hg5 hor5 stA S5 bb5 N5 ha5 bnB ho8 hg8 hor8 stB S8 bb8 eI eX eT HA st1 he HG hsz
              go_wp2_with (at_builtin; first | (refine wpList_run_app rfl _ _ _ _ rfl _ _ rfl rfl hr1 ?_; clear hr1) | (refine wpList_run_app rfl _ _ _ _ rfl _ _ rfl rfl hr2 ?_; clear hr2))
              go_wp2
              go_meet
              case rel => exact ⟨_, _, _, rfl, on_none R.out⟩
            · have eT : askTo l a b = l := by unfold askTo; rw [if_neg he]
              rw [eT] at S1 nd1 tp1 ln1
              have R : Hid (OnI w g u4 u5 l x1) := ⟨⟨_, _, _, S1⟩, ln1, nd1, tp1, bb1⟩
              have he' : ¬ (askE l a b : Int) = 0 := he
              generalize askE l a b = ev at *
              clear S1 bb1 N1 nd1 tp1 ln1 eT HA st1 he HG hsz
              go_wp2
              go_meet
              case rel => exact ⟨_, _, _, rfl, on_none R.out⟩
          · have HA : Hid _ := rdAsk_any g q l a b w3 HG.out.1.head HG.out.2.1
            go_wp2_with fail
            refine (Calls.mono HA.out) ?_
            rintro e x1 ⟨q1, rfl, st1⟩
            have S1 := HG.out.1.step st1
            have bb1 := HG.out.2.2.2.2.1.trans (HG.out.1.below st1)
            have N1 := HG.out.2.2.2.2.2.turned st1.turned (fun e => by have := hsz.out (rdOb g q l) (by simp) _ e; omega)
            have nd1 := nd_ask HG.out.2.2.1 a b
            have tp1 := askTo_top (a := a) HG.out.2.2.2.1 hb6.2
            have ln1 := askTo_len HG.out.2.1 a b
            have z1 := blk_at N1 1
            have z2 := blk_at N1 2
            simp only [List.getElem?_cons_zero, List.getElem?_cons_succ] at z1 z2
            by_cases he : askE l a b = 0
            · rw [he]
              have eT : askTo l a b = l ++ [(a, b)] := by unfold askTo; rw [if_pos he]
              rw [eT] at S1 nd1 tp1 ln1
              have hw1 := S1.swap.head.holds
              have ha1 := S1.third.head.holds
              have bnA : Below x1.heap.size x1 (x1.alloc (.cells #[.int .i64 a] 2)) := (Below.refl _ _).alloc (Nat.le_refl _) _
              obtain ⟨v5, w5, p5, hr1, ho5, hg5, hor5⟩ := NSl.append (NSl.later hw1 bnA) x1.heap.size a (Blk.new' x1 2 [.int .i64 a]) (by have := HG.out.2.1; simp; omega) 33
              have stA : Step x1 w5 (nsOb u4 qw (ids l)) (nsOb v5 p5 (ids l ++ [a])) := (Step.quiet (nsOb_ok hw1) bnA).trans (ns_step (NSl.later hw1 bnA) ho5 hg5 hor5)
              have S5 := (S1.swap.step stA).swap
              have bb5 := bb1.trans (S1.swap.below stA)
              have N5 := N1.turned stA.turned (fun e => by have := hsz.out (nsOb u4 qw (ids l)) (by simp) _ e; omega)
              have z52 := blk_at N5 2
              simp only [List.getElem?_cons_zero, List.getElem?_cons_succ] at z52
              have ha5 := S5.third.head.holds
              have bnB : Below w5.heap.size w5 (w5.alloc (.cells #[.int .i64 b] 2)) := (Below.refl _ _).alloc (Nat.le_refl _) _
              obtain ⟨v8, w8, p8, hr2, ho8, hg8, hor8⟩ := NSl.append (NSl.later ha5 bnB) w5.heap.size b (Blk.new' w5 2 [.int .i64 b]) (by have := HG.out.2.1; simp; omega) 33
              have stB : Step w5 w8 (nsOb u5 qa (ixs l)) (nsOb v8 p8 (ixs l ++ [b])) := (Step.quiet (nsOb_ok ha5) bnB).trans (ns_step (NSl.later ha5 bnB) ho8 hg8 hor8)
              have S8 := (S5.third.step stB).third.third
              have bb8 := bb5.trans (S5.third.below stB)
              have eI : ids (l ++ [(a, b)]) = ids l ++ [a] := by simp
              have eX : ixs (l ++ [(a, b)]) = ixs l ++ [b] := by simp
              have R : Hid (OnI w g v5 v8 (l ++ [(a, b)]) w8) := ⟨⟨_, _, _, by rw [eI, eX]; exact S8⟩, ln1, nd1, tp1, bb8⟩
              clear S1 bb1 N1 nd1 tp1 ln1 hw1 ha1 bnA ho5 hg5 hor5 stA S5 bb5 N5 ha5 bnB ho8 hg8 hor8 stB S8 bb8 eI eX eT HA st1 he HG hsz
              go_wp2_with (at_builtin; first | (refine wpList_run_app rfl _ _ _ _ rfl _ _ rfl rfl hr1 ?_; clear hr1) | (refine wpList_run_app rfl _ _ _ _ rfl _ _ rfl rfl hr2 ?_; clear hr2))
              go_wp2
              go_meet
              case rel => exact ⟨_, _, _, rfl, on_none R.out⟩
            · have eT : askTo l a b = l := by unfold askTo; rw [if_neg he]
              rw [eT] at S1 nd1 tp1 ln1
              have R : Hid (OnI w g u4 u5 l x1) := ⟨⟨_, _, _, S1⟩, ln1, nd1, tp1, bb1⟩
              have he' : ¬ (askE l a b : Int) = 0 := he
              generalize askE l a b = ev at *
              clear S1 bb1 N1 nd1 tp1 ln1 eT HA st1 he HG hsz
              go_wp2
              go_meet
              case rel => exact ⟨_, _, _, rfl, on_none R.out⟩
          · have HA : Hid _ := rdAsk_any g q l a b w3 HG.out.1.head HG.out.2.1
            go_wp2_with fail
            refine (Calls.mono HA.out) ?_
            rintro e x1 ⟨q1, rfl, st1⟩
            have S1 := HG.out.1.step st1
            have bb1 := HG.out.2.2.2.2.1.trans (HG.out.1.below st1)
            have N1 := HG.out.2.2.2.2.2.turned st1.turned (fun e => by have := hsz.out (rdOb g q l) (by simp) _ e; omega)
            have nd1 := nd_ask HG.out.2.2.1 a b
            have tp1 := askTo_top (a := a) HG.out.2.2.2.1 hb6.2
            have ln1 := askTo_len HG.out.2.1 a b
            have z1 := blk_at N1 1
            have z2 := blk_at N1 2
            simp only [List.getElem?_cons_zero, List.getElem?_cons_succ] at z1 z2
            by_cases he : askE l a b = 0
            · rw [he]
              have eT : askTo l a b = l ++ [(a, b)] := by unfold askTo; rw [if_pos he]
              rw [eT] at S1 nd1 tp1 ln1
              have hw1 := S1.swap.head.holds
              have ha1 := S1.third.head.holds
              have bnA : Below x1.heap.size x1 (x1.alloc (.cells #[.int .i64 a] 2)) := (Below.refl _ _).alloc (Nat.le_refl _) _
              obtain ⟨v5, w5, p5, hr1, ho5, hg5, hor5⟩ := NSl.append (NSl.later hw1 bnA) x1.heap.size a (Blk.new' x1 2 [.int .i64 a]) (by have := HG.out.2.1; simp; omega) 33
              have stA : Step x1 w5 (nsOb u4 qw (ids l)) (nsOb v5 p5 (ids l ++ [a])) := (Step.quiet (nsOb_ok hw1) bnA).trans (ns_step (NSl.later hw1 bnA) ho5 hg5 hor5)
              have S5 := (S1.swap.step stA).swap
              have bb5 := bb1.trans (S1.swap.below stA)
              have N5 := N1.turned stA.turned (fun e => by have := hsz.out (nsOb u4 qw (ids l)) (by simp) _ e; omega)
              have z52 := blk_at N5 2
              simp only [List.getElem?_cons_zero, List.getElem?_cons_succ] at z52
              have ha5 := S5.third.head.holds
              have bnB : Below w5.heap.size w5 (w5.alloc (.cells #[.int .i64 b] 2)) := (Below.refl _ _).alloc (Nat.le_refl _) _
              obtain ⟨v8, w8, p8, hr2, ho8, hg8, hor8⟩ := NSl.append (NSl.later ha5 bnB) w5.heap.size b (Blk.new' w5 2 [.int .i64 b]) (by have := HG.out.2.1; simp; omega) 33
              have stB : Step w5 w8 (nsOb u5 qa (ixs l)) (nsOb v8 p8 (ixs l ++ [b])) := (Step.quiet (nsOb_ok ha5) bnB).trans (ns_step (NSl.later ha5 bnB) ho8 hg8 hor8)
              have S8 := (S5.third.step stB).third.third
              have bb8 := bb5.trans (S5.third.below stB)
              have eI : ids (l ++ [(a, b)]) = ids l ++ [a] := by simp
              have eX : ixs (l ++ [(a, b)]) = ixs l ++ [b] := by simp
              have R : Hid (OnI w g v5 v8 (l ++ [(a, b)]) w8) := ⟨⟨_, _, _, by rw [eI, eX]; exact S8⟩, ln1, nd1, tp1, bb8⟩
              clear S1 bb1 N1 nd1 tp1 ln1 hw1 ha1 bnA ho5 hg5 hor5 stA S5 bb5 N5 ha5 bnB ho8 hg8 hor8 stB S8 bb8 eI eX eT HA st1 he HG hsz
              go_wp2_with (at_builtin; first | (refine wpList_run_app rfl _ _ _ _ rfl _ _ rfl rfl hr1 ?_; clear hr1) | (refine wpList_run_app rfl _ _ _ _ rfl _ _ rfl rfl hr2 ?_; clear hr2))
              go_wp2
              go_meet
              case rel => exact ⟨_, _, _, rfl, on_none R.out⟩
            · have eT : askTo l a b = l := by unfold askTo; rw [if_neg he]
              rw [eT] at S1 nd1 tp1 ln1
              have R : Hid (OnI w g u4 u5 l x1) := ⟨⟨_, _, _, S1⟩, ln1, nd1, tp1, bb1⟩
              have he' : ¬ (askE l a b : Int) = 0 := he
              generalize askE l a b = ev at *
              clear S1 bb1 N1 nd1 tp1 ln1 eT HA st1 he HG hsz
              go_wp2
              go_meet
              case rel => exact ⟨_, _, _, rfl, on_none R.out⟩
        · by_cases hk3 : kd = 3 ∨ kd = 4
          · clear hk0
            rcases hk3 with rfl | rfl
            · have HA : Hid _ := lawready_any g q l b w3 HG.out.1.head (by have := HG.out.2.1; omega)
              go_wp2_with fail
              refine (Calls.mono HA.out) ?_
              rintro e x1 ⟨tv, q1, rfl, ho, hf, st1⟩
              have N1 := HG.out.2.2.2.2.2.turned st1.turned (fun e => by have := hsz.out (rdOb g q l) (by simp) _ e; omega)
              have z2 := blk_at N1 2
              simp only [List.getElem?_cons_zero, List.getElem?_cons_succ] at z2
              have R : Hid (OnT w g u4 u5 tv b l (fun x => decide (x.2 ≤ b)) x1) := on_told HG.out.1 st1 ho hf (fun x hx => by simpa using (List.mem_filter.1 hx).2) HG.out.2.1 HG.out.2.2.1 HG.out.2.2.2.1 HG.out.2.2.2.2.1
              clear N1 ho hf st1 HA HG hsz
              go_wp2
              go_meet
              case rel => exact ⟨_, _, _, rfl, R.out⟩
            · have HA : Hid _ := lawready_any g q l b w3 HG.out.1.head (by have := HG.out.2.1; omega)
              go_wp2_with fail
              refine (Calls.mono HA.out) ?_
              rintro e x1 ⟨tv, q1, rfl, ho, hf, st1⟩
              have N1 := HG.out.2.2.2.2.2.turned st1.turned (fun e => by have := hsz.out (rdOb g q l) (by simp) _ e; omega)
              have z2 := blk_at N1 2
              simp only [List.getElem?_cons_zero, List.getElem?_cons_succ] at z2
              have R : Hid (OnT w g u4 u5 tv b l (fun x => decide (x.2 ≤ b)) x1) := on_told HG.out.1 st1 ho hf (fun x hx => by simpa using (List.mem_filter.1 hx).2) HG.out.2.1 HG.out.2.2.1 HG.out.2.2.2.1 HG.out.2.2.2.2.1
              clear N1 ho hf st1 HA HG hsz
              go_wp2
              go_meet
              case rel => exact ⟨_, _, _, rfl, R.out⟩
          · by_cases hk5 : kd = 5
            · subst hk5
              clear hk0 hk3
              have HA : Hid _ := rdDrop_any g q l w3 HG.out.1.head (by have := HG.out.2.1; omega) HG.out.2.2.2.1
              go_wp2_with fail
              refine (Calls.mono HA.out) ?_
              rintro e x1 ⟨tv, q1, rfl, ho, hf, st1⟩
              have e1 : l.filter (fun _ => true) = l := by simp
              have e2 : l.filter (fun x => !(fun _ => true) x) = [] := by simp
              have R : Hid (OnT w g u4 u5 tv 9223372036854775807 l (fun _ => true) x1) := on_told HG.out.1 (by rw [e2]; exact st1) (by rw [e1]; exact ho) hf (fun x hx => HG.out.2.2.2.1 x (List.mem_filter.1 hx).1) HG.out.2.1 HG.out.2.2.1 HG.out.2.2.2.1 HG.out.2.2.2.2.1
              clear ho hf st1 HA HG hsz e1 e2
              go_wp2
              go_meet
              case rel => exact ⟨_, _, _, rfl, R.out⟩
            · have e0 : ¬ kd = 0 ∧ ¬ kd = 1 ∧ ¬ kd = 2 ∧ ¬ kd = 3 ∧ ¬ kd = 4 := by omega
              obtain ⟨e0, e1, e2, e3, e4⟩ := e0
              clear hk0 hk3
              have R : Hid (OnI w g u4 u5 l w3) := ⟨⟨_, _, _, HG.out.1⟩, HG.out.2.1, HG.out.2.2.1, HG.out.2.2.2.1, HG.out.2.2.2.2.1⟩
              clear HG hsz
              go_wp2
              go_meet
              case rel => exact ⟨_, _, _, rfl, on_none R.out⟩
      case rest =>
        clear HG hsz n0 n1 n2 y1 y2 y3 hk6 ha6 hb6
        obtain ⟨l2, P, m, rfl, hT⟩ := hcut
        obtain ⟨q5, qw2, qa2, hs2⟩ := hT.ex
        have htold := hs2.head.holds
        have hwv := (hs2.each (nsOb u4 qw2 (ids l2)) (by simp)).holds
        have hav := (hs2.each (nsOb u5 qa2 (ixs l2)) (by simp)).holds
        obtain ⟨ta, tc, htv, htc, htcs, -⟩ := NOwn.open htold
        obtain ⟨aa, ac, hava, hac, ham, hacs⟩ := NSl.open hav
        have hKl : (l2.filter P).length ≤ 100 := Nat.le_trans (List.length_filter_le _ _) hT.len
        obtain ⟨K, hK⟩ : ∃ K, l2.filter P = K := ⟨_, rfl⟩
        have HR := places_rise hT.nd P
        rw [hK] at htold htv htcs hKl HR
        simp only [List.length_map, List.getElem_map] at htv htcs
        rw [List.length_map] at hava
        simp only [List.length_map] at hacs
        have HT : Hid _ := And.intro hs2 (And.intro hT (And.intro hwv (And.intro htcs (And.intro hacs (And.intro hK HR)))))
        have hL0 : LastOk l2 K 0 (-1) := ⟨by omega, by omega, fun i hi _ => by omega⟩
        have HL0 : Hid _ := hL0
        have HV : Hid _ := And.intro htv hava
        clear hs2 hT hwv hav htold htcs hacs hL0 HR htc
        rw [htv, hava]
        go_wp2_with fail
        go_loopw [10, 11] (fun lv jv wr => ∃ (j : Nat) (la : Int), jv = .int .i64 j ∧ lv = .int .i64 la ∧ j ≤ K.length ∧ LastOk l2 K j la ∧ wc = wr) (fun _ jv _ => K.length - (intOf jv).toNat)
        case atStart => exact ⟨0, -1, rfl, rfl, by omega, HL0.out, rfl⟩
        case round =>
          obtain ⟨j, la, rfl, rfl, hj, hL, rfl⟩ := hrel
          by_cases hlt : j < K.length
          · obtain ⟨hs2, hT, hwv, htcs, hacs, hK', HR⟩ := HT.out
            obtain ⟨tb, rfl, -, k1⟩ := htcs j hlt
            have hmem : K[j] ∈ l2 := (List.mem_filter.1 (show K[j] ∈ l2.filter P by rw [hK']; exact List.getElem_mem _)).1
            have hlem := hT.le K[j] (by rw [hK']; exact List.getElem_mem _)
            obtain ⟨hi1, hi2⟩ := idx_snd hT.nd hmem
            obtain ⟨ab, ao, rfl, -, k2⟩ := hacs _ hi2
            have k2v : (ixs l2)[(ids l2).idxOf K[j].1]'(by simpa using hi2) = K[j].2 := by
              rw [List.getElem?_eq_getElem (by simpa using hi2)] at hi1; exact Option.some.inj hi1
            rw [k2v] at k2
            have HP : Hid _ := place_any u4 qw2 (ids l2) K[j].1 wc hwv (by have := hT.len; simp; omega)
            have hin : K[j].1 ∈ ids l2 := List.mem_map.2 ⟨_, hmem, rfl⟩
            have hla := hL.next j hlt (Nat.le_refl _)
            have hnext : Hid (LastOk l2 K (j + 1) ((ids l2).idxOf K[j].1 : Int)) := ⟨by omega, by have := hT.len; omega, fun i hi hji => by
              have := List.pairwise_iff_getElem.1 HR j i hlt hi (by omega); omega⟩
            have q1 : (j : Int) < K.length := by omega
            have hl100 := hT.len
            have q3 : (((ids l2).idxOf K[j].1 : Nat) : Int) < l2.length := by omega
            have HIn : Hid _ := hin
            clear hs2 hT hwv htcs hacs hK' HR hmem hi1 hL k2v hin
            generalize hid : K[j].1 = id at *
            generalize K[j].2 = ix at *
            generalize hnn : (ids l2).idxOf id = nn at *
            go_wp2_with fail
            refine (Calls.mono HP.out) ?_
            rintro e w5 ⟨⟨kk, rfl, hpl⟩, rfl⟩
            have hkk : kk = (nn : Int) := by
              rcases hpl.is with ⟨-, h⟩ | ⟨h, -⟩
              · exact absurd HIn.out h
              · rw [h, hnn]
            subst hkk
            have g1 : ¬ (nn : Int) < 0 := by omega
            have g2 : ¬ (nn : Int) ≤ la := by omega
            have g3 : ¬ ix > m := by omega
            clear HP hpl hlem hla
            go_wp2
            go_roundw
            case rel => exact ⟨j + 1, nn, by go_num, rfl, by omega, hnext.out, by first | rfl | trivial⟩
            case measure => simp [intOf]; omega
          · obtain rfl : j = K.length := by omega
            clear hL HL0
            have hG0 : Hid (OnG w g u8 (ids K) l2 (l2.filter (fun x => !P x)) u4 u5 0 wc) := by
              obtain ⟨hs2, hT, hwv, htcs, hacs, hK', HR⟩ := HT.out
              rw [hK'] at hs2
              exact ⟨⟨q5, qw2, qa2, by rw [leftK_zero]; exact hs2⟩, hT.below⟩
            have HT2 : Hid _ := And.intro HT.out.2.1 HT.out.2.2.2.2.2.1
            clear HT
            rw [← HV.out.1, ← HV.out.2]
            go_wp2_with fail
            rw [HV.out.1]
            go_loopw [4, 5, 13] (fun wv av jv wr => ∃ (j : Nat), jv = .int .i64 j ∧ j ≤ K.length ∧ OnG w g u8 (ids K) l2 (l2.filter (fun x => !P x)) wv av j wr) (fun _ _ jv _ => K.length - (intOf jv).toNat)
            case atStart => exact ⟨0, rfl, by omega, hG0.out⟩
            case round =>
              obtain ⟨j, rfl, hj, hG⟩ := hrel
              by_cases hlt : j < K.length
              · obtain ⟨q4, qw4, qa4, hs4⟩ := hG.ex
                have hT := HT2.out.1
                have hndT : (ids K).Nodup := by rw [← HT2.out.2]; exact nd_filter hT.nd P
                have hmemT : (ids K)[j]'(by simpa using hlt) ∈ ids l2 := by
                  simp only [List.getElem_map]
                  exact List.mem_map.2 ⟨K[j], (List.mem_filter.1 (show K[j] ∈ l2.filter P by rw [HT2.out.2]; exact List.getElem_mem _)).1, rfl⟩
                obtain ⟨n, hnl, e1, e2, e3⟩ := leftK_step hT.nd (ids K) j (by simpa using hlt) hndT hmemT
                obtain ⟨eI, eX⟩ := erase_maps e3
                have hcl : (leftK l2 (ids K) j).length ≤ 1000 := by have := leftK_len l2 (ids K) j; have := hT.len; omega
                have hin : (ids K)[j]'(by simpa using hlt) ∈ ids (leftK l2 (ids K) j) := by rw [← e1]; exact List.mem_map.2 ⟨_, List.getElem_mem _, rfl⟩
                simp only [List.getElem_map] at e1 e2 hin
                obtain ⟨ta2, tc2, htv2, -, htcs2, -⟩ := NOwn.open hs4.head.holds
                have hw4 := (hs4.each (nsOb u4 qw4 (ids (leftK l2 (ids K) j))) (by simp)).holds
                simp only [List.length_map, List.getElem_map] at htv2 htcs2
                obtain ⟨tb, hta2, -, k1⟩ := htcs2 j hlt
                have hta : ta = some ⟨tb, 0, none⟩ := by have := HV.out.1; rw [htv2] at this; cases this; exact hta2
                subst hta
                have HP : Hid _ := place_any u4 qw4 _ K[j].1 wr hw4 (by simpa using hcl)
                generalize hid : K[j].1 = id at *
                have HS4 : Hid _ := hs4
                have HB4 : Hid _ := hG.below
                have q1 : (j : Int) < K.length := by omega
                generalize hc1 : leftK l2 (ids K) (j + 1) = c' at *
                generalize leftK l2 (ids K) j = c at *
                have HIn : Hid _ := And.intro hin e2
                obtain ⟨bw, ow, cw, hvw, hwc, hcutw⟩ := NSl.cut (w := wr.drew) (NSl.same hw4 (fun _ _ => rfl)) n (by simpa using hnl) (by simpa using hcl)
                simp only [List.length_map] at hvw hwc hcutw
                obtain ⟨Lc, hLc⟩ : ∃ Lc, c.length = Lc := ⟨_, rfl⟩
                rw [hLc] at hvw hwc hcutw
                have hn1 : n < Lc := by omega
                have hL1 : Lc ≤ 1000 := by omega
                clear hT hndT hmemT hs4 hG htcs2 htv2 hta2 hin e2 e1 e3
                by_cases hcw : cw = n + 1
                · subst hcw
                  obtain ⟨v5, w5, p5, hr1, ho5, hg5, hor5⟩ := hcutw ⟨bw, ow, none⟩ 0 0 33 (by omega) (.inl rfl)
                  have stA : Step wr.drew w5 (nsOb u4 qw4 (ids c)) (nsOb v5 p5 ((ids c).eraseIdx n)) := ns_step (hw4.same (fun _ _ => rfl)) ho5 (grown_none hg5 _) hor5
                  obtain ⟨S5, bb5⟩ := sep_third HS4.out.drew stA
                  have ha5 := (S5.each (nsOb u5 qa4 (ixs c)) (by simp)).holds
                  obtain ⟨ba, oa, ca, hva5, hac5, hcuta⟩ := NSl.cut (w := w5.drew) (NSl.same ha5 (fun _ _ => rfl)) n (by simpa using hnl) (by simpa using hcl)
                  simp only [List.length_map] at hva5 hac5 hcuta
                  rw [hLc] at hva5 hac5 hcuta
                  by_cases hca : ca = n + 1
                  · subst hca
                    obtain ⟨v8, w8, p8, hr2, ho8, hg8, hor8⟩ := hcuta ⟨ba, oa, none⟩ 0 0 33 (by omega) (.inl rfl)
                    have stB : Step w5.drew w8 (nsOb u5 qa4 (ixs c)) (nsOb v8 p8 ((ixs c).eraseIdx n)) := ns_step (NSl.same ha5 (fun _ _ => rfl)) ho8 (grown_none hg8 _) hor8
                    obtain ⟨S8, bb8⟩ := sep_fourth S5.drew stB
                    have R : Hid (∃ q qw qa, Sep w.heap.size [nuOb u8 (ids K), rdOb g q (l2.filter (fun x => !P x)), nsOb v5 qw (ids c'), nsOb v8 qa (ixs c')] w8) := ⟨q4, p5, p8, by rw [eI, eX]; exact S8⟩
                    have RB : Hid (Below w.heap.size w w8) := (HB4.out.trans (((Below.refl _ _).drew).trans bb5)).trans (((Below.refl _ _).drew).trans bb8)
                    have H1 : Hid _ := hr1
                    have H2 : Hid _ := hr2
                    have q2 : (n : Int) < (Lc : Int) := by omega
                    have q3 : (n : Int) + 1 ≤ (Lc : Int) := by omega
                    have q4' : (Lc : Int) ≤ 1000 := by omega
                    have hwn : IntKind.i64.wrap ((n : Int) + 1) = (n : Int) + 1 := by rw [IntKind.wrap_i64] <;> omega
                    have p1 : (n : Int) ≤ (n : Int) + 1 := by omega
                    have p2 : (0 : Int) ≤ (n : Int) + 1 := by omega
                    have p3 : (0 : Int) ≤ (n : Int) := by omega
                    have p4 : (n : Int) ≤ (Lc : Int) := by omega
                    have q5' : (Lc : Int) ≤ (n : Int) + 1 := by omega
                    have q6' : (Lc : Int) ≤ (n : Int) + 1 := by omega
                    have HW5 : Hid _ := And.intro hvw hva5
                    clear hr1 hr2 ho8 hg8 hor8 stB S8 bb8 S5 bb5 ha5 stA ho5 hg5 hor5 hw4 HS4 HB4 hcutw hcuta
                    rw [hvw, hva5]
                    go_wp2_with fail
                    rw [← HW5.out.1]
                    refine (Calls.mono HP.out) ?_
                    rintro e w6 ⟨⟨kk, rfl, hpl⟩, rfl⟩
                    have hkk : kk = (n : Int) := by
                      rcases hpl.is with ⟨-, h⟩ | ⟨h, -⟩
                      · exact absurd HIn.out.1 h
                      · rw [h, HIn.out.2]
                    subst hkk
                    rw [HW5.out.1]
                    clear HP hpl
                    go_wp2_with fail
                    refine wp_region_held_drew (S := fun W => True) (by as_aux_lemma => kernel_rfl) (trivial) (fun hS => ?_)
                    refine any_take (i := 0) (v := ?_) rfl (by as_aux_lemma => kernel_rfl) (by as_aux_lemma => kernel_rfl) (by as_aux_lemma => kernel_rfl) (by exact fun _ _ _ h => h) (by rfl) ?_ hS ?_
                    rotate_left
                    · ((intro w hSw; (try dsimp only at hSw); go_simp) <;> with_reducible rfl)
                    (try simp only [Act.put, List.setIfInBounds_toArray, List.set_cons_zero, List.set_cons_succ])
                    refine any_take (i := 1) (v := ?_) rfl (by as_aux_lemma => kernel_rfl) (by as_aux_lemma => kernel_rfl) (by as_aux_lemma => kernel_rfl) (by exact fun _ _ _ h => h) (by rfl) ?_ hS ?_
                    rotate_left
                    · ((intro w hSw; (try dsimp only at hSw); go_simp) <;> with_reducible rfl)
                    (try simp only [Act.put, List.setIfInBounds_toArray, List.set_cons_zero, List.set_cons_succ])
                    refine any_take (i := 2) (v := ?_) rfl (by as_aux_lemma => kernel_rfl) (by as_aux_lemma => kernel_rfl) (by as_aux_lemma => kernel_rfl) (by exact fun _ _ _ h => h) (by rfl) ?_ hS ?_
                    rotate_left
                    · ((intro w hSw; (try dsimp only at hSw); go_simp) <;> with_reducible rfl)
                    (try simp only [Act.put, List.setIfInBounds_toArray, List.set_cons_zero, List.set_cons_succ])
                    refine any_take (i := 3) (v := ?_) rfl (by as_aux_lemma => kernel_rfl) (by as_aux_lemma => kernel_rfl) (by as_aux_lemma => kernel_rfl) (by exact fun _ _ _ h => h) (by rfl) ?_ hS ?_
                    rotate_left
                    · ((intro w hSw; (try dsimp only at hSw); go_simp) <;> with_reducible rfl)
                    (try simp only [Act.put, List.setIfInBounds_toArray, List.set_cons_zero, List.set_cons_succ])
                    refine any_take (i := 4) (v := ?_) rfl (by as_aux_lemma => kernel_rfl) (by as_aux_lemma => kernel_rfl) (by as_aux_lemma => kernel_rfl) (by exact fun _ _ _ h => h) (by rfl) ?_ hS ?_
                    rotate_left
                    · ((intro w hSw; (try dsimp only at hSw); go_simp) <;> with_reducible rfl)
                    (try simp only [Act.put, List.setIfInBounds_toArray, List.set_cons_zero, List.set_cons_succ])
                    refine any_take (i := 5) (v := ?_) rfl (by as_aux_lemma => kernel_rfl) (by as_aux_lemma => kernel_rfl) (by as_aux_lemma => kernel_rfl) (by exact fun _ _ _ h => h) (by rfl) ?_ hS ?_
                    rotate_left
                    · ((intro w hSw; (try dsimp only at hSw); go_simp) <;> with_reducible rfl)
                    (try simp only [Act.put, List.setIfInBounds_toArray, List.set_cons_zero, List.set_cons_succ])
                    refine any_take (i := 6) (v := ?_) rfl (by as_aux_lemma => kernel_rfl) (by as_aux_lemma => kernel_rfl) (by as_aux_lemma => kernel_rfl) (by exact fun _ _ _ h => h) (by rfl) ?_ hS ?_
                    rotate_left
                    · ((intro w hSw; (try dsimp only at hSw); go_simp) <;> with_reducible rfl)
                    (try simp only [Act.put, List.setIfInBounds_toArray, List.set_cons_zero, List.set_cons_succ])
                    refine any_take (i := 7) (v := ?_) rfl (by as_aux_lemma => kernel_rfl) (by as_aux_lemma => kernel_rfl) (by as_aux_lemma => kernel_rfl) (by exact fun _ _ _ h => h) (by rfl) ?_ hS ?_
                    rotate_left
                    · ((intro w hSw; (try dsimp only at hSw); go_simp) <;> with_reducible rfl)
                    (try simp only [Act.put, List.setIfInBounds_toArray, List.set_cons_zero, List.set_cons_succ])
                    refine any_one (i := 8) rfl (by as_aux_lemma => kernel_rfl) (fun K hK => ?_)
                    refine step_run_app rfl (.tmp 111) (.tmp 115) 33 33 rfl _ _ (by simp [Act.eval] <;> omega) (by simp [Act.eval] <;> omega) H1.out ?_
                    (try simp only [Act.put, List.setIfInBounds_toArray, List.set_cons_zero, List.set_cons_succ])
                    refine hK.out _ _ trivial ?_
                    clear hK K
                    refine any_take (i := 9) (v := ?_) rfl (by as_aux_lemma => kernel_rfl) (by as_aux_lemma => kernel_rfl) (by as_aux_lemma => kernel_rfl) (by exact fun _ _ _ h => h) (by rfl) ?_ hS ?_
                    rotate_left
                    · ((intro w hSw; (try dsimp only at hSw); go_simp) <;> with_reducible rfl)
                    (try simp only [Act.put, List.setIfInBounds_toArray, List.set_cons_zero, List.set_cons_succ])
                    refine wpAnyH_done (by as_aux_lemma => kernel_rfl) ?_ _
                    go_wp2_with fail
                    refine wp_region_held_drew (S := fun W => True) (by as_aux_lemma => kernel_rfl) (trivial) (fun hS => ?_)
                    refine any_take (i := 0) (v := ?_) rfl (by as_aux_lemma => kernel_rfl) (by as_aux_lemma => kernel_rfl) (by as_aux_lemma => kernel_rfl) (by exact fun _ _ _ h => h) (by rfl) ?_ hS ?_
                    rotate_left
                    · ((intro w hSw; (try dsimp only at hSw); go_simp) <;> with_reducible rfl)
                    (try simp only [Act.put, List.setIfInBounds_toArray, List.set_cons_zero, List.set_cons_succ])
                    refine any_take (i := 1) (v := ?_) rfl (by as_aux_lemma => kernel_rfl) (by as_aux_lemma => kernel_rfl) (by as_aux_lemma => kernel_rfl) (by exact fun _ _ _ h => h) (by rfl) ?_ hS ?_
                    rotate_left
                    · ((intro w hSw; (try dsimp only at hSw); go_simp) <;> with_reducible rfl)
                    (try simp only [Act.put, List.setIfInBounds_toArray, List.set_cons_zero, List.set_cons_succ])
                    refine any_take (i := 2) (v := ?_) rfl (by as_aux_lemma => kernel_rfl) (by as_aux_lemma => kernel_rfl) (by as_aux_lemma => kernel_rfl) (by exact fun _ _ _ h => h) (by rfl) ?_ hS ?_
                    rotate_left
                    · ((intro w hSw; (try dsimp only at hSw); go_simp) <;> with_reducible rfl)
                    (try simp only [Act.put, List.setIfInBounds_toArray, List.set_cons_zero, List.set_cons_succ])
                    refine any_take (i := 3) (v := ?_) rfl (by as_aux_lemma => kernel_rfl) (by as_aux_lemma => kernel_rfl) (by as_aux_lemma => kernel_rfl) (by exact fun _ _ _ h => h) (by rfl) ?_ hS ?_
                    rotate_left
                    · ((intro w hSw; (try dsimp only at hSw); go_simp) <;> with_reducible rfl)
                    (try simp only [Act.put, List.setIfInBounds_toArray, List.set_cons_zero, List.set_cons_succ])
                    refine any_take (i := 4) (v := ?_) rfl (by as_aux_lemma => kernel_rfl) (by as_aux_lemma => kernel_rfl) (by as_aux_lemma => kernel_rfl) (by exact fun _ _ _ h => h) (by rfl) ?_ hS ?_
                    rotate_left
                    · ((intro w hSw; (try dsimp only at hSw); go_simp) <;> with_reducible rfl)
                    (try simp only [Act.put, List.setIfInBounds_toArray, List.set_cons_zero, List.set_cons_succ])
                    refine any_take (i := 5) (v := ?_) rfl (by as_aux_lemma => kernel_rfl) (by as_aux_lemma => kernel_rfl) (by as_aux_lemma => kernel_rfl) (by exact fun _ _ _ h => h) (by rfl) ?_ hS ?_
                    rotate_left
                    · ((intro w hSw; (try dsimp only at hSw); go_simp) <;> with_reducible rfl)
                    (try simp only [Act.put, List.setIfInBounds_toArray, List.set_cons_zero, List.set_cons_succ])
                    refine any_take (i := 6) (v := ?_) rfl (by as_aux_lemma => kernel_rfl) (by as_aux_lemma => kernel_rfl) (by as_aux_lemma => kernel_rfl) (by exact fun _ _ _ h => h) (by rfl) ?_ hS ?_
                    rotate_left
                    · ((intro w hSw; (try dsimp only at hSw); go_simp) <;> with_reducible rfl)
                    (try simp only [Act.put, List.setIfInBounds_toArray, List.set_cons_zero, List.set_cons_succ])
                    refine any_take (i := 7) (v := ?_) rfl (by as_aux_lemma => kernel_rfl) (by as_aux_lemma => kernel_rfl) (by as_aux_lemma => kernel_rfl) (by exact fun _ _ _ h => h) (by rfl) ?_ hS ?_
                    rotate_left
                    · ((intro w hSw; (try dsimp only at hSw); go_simp) <;> with_reducible rfl)
                    (try simp only [Act.put, List.setIfInBounds_toArray, List.set_cons_zero, List.set_cons_succ])
                    refine any_one (i := 8) rfl (by as_aux_lemma => kernel_rfl) (fun K hK => ?_)
                    refine step_run_app rfl (.tmp 120) (.tmp 124) 33 33 rfl _ _ (by simp [Act.eval] <;> omega) (by simp [Act.eval] <;> omega) H2.out ?_
                    (try simp only [Act.put, List.setIfInBounds_toArray, List.set_cons_zero, List.set_cons_succ])
                    refine hK.out _ _ trivial ?_
                    clear hK K
                    refine any_take (i := 9) (v := ?_) rfl (by as_aux_lemma => kernel_rfl) (by as_aux_lemma => kernel_rfl) (by as_aux_lemma => kernel_rfl) (by exact fun _ _ _ h => h) (by rfl) ?_ hS ?_
                    rotate_left
                    · ((intro w hSw; (try dsimp only at hSw); go_simp) <;> with_reducible rfl)
                    (try simp only [Act.put, List.setIfInBounds_toArray, List.set_cons_zero, List.set_cons_succ])
                    refine wpAnyH_done (by as_aux_lemma => kernel_rfl) ?_ _
                    go_wp2
                    go_roundw
                    case rel => exact ⟨j + 1, by go_num, by omega, by rw [hc1]; exact R.out, RB.out⟩
                    case measure => simp [intOf]; omega
                  · obtain ⟨v8, w8, p8, hr2, ho8, hg8, hor8⟩ := hcuta ⟨ba, oa + (n + 1), none⟩ (Lc - (n + 1)) (ca - (n + 1)) 33 rfl (.inr rfl)
                    have stB : Step w5.drew w8 (nsOb u5 qa4 (ixs c)) (nsOb v8 p8 ((ixs c).eraseIdx n)) := ns_step (NSl.same ha5 (fun _ _ => rfl)) ho8 (grown_none hg8 _) hor8
                    obtain ⟨S8, bb8⟩ := sep_fourth S5.drew stB
                    have R : Hid (∃ q qw qa, Sep w.heap.size [nuOb u8 (ids K), rdOb g q (l2.filter (fun x => !P x)), nsOb v5 qw (ids c'), nsOb v8 qa (ixs c')] w8) := ⟨q4, p5, p8, by rw [eI, eX]; exact S8⟩
                    have RB : Hid (Below w.heap.size w w8) := (HB4.out.trans (((Below.refl _ _).drew).trans bb5)).trans (((Below.refl _ _).drew).trans bb8)
                    have H1 : Hid _ := hr1
                    have H2 : Hid _ := hr2
                    have q2 : (n : Int) < (Lc : Int) := by omega
                    have q3 : (n : Int) + 1 ≤ (Lc : Int) := by omega
                    have q4' : (Lc : Int) ≤ 1000 := by omega
                    have hwn : IntKind.i64.wrap ((n : Int) + 1) = (n : Int) + 1 := by rw [IntKind.wrap_i64] <;> omega
                    have p1 : (n : Int) ≤ (n : Int) + 1 := by omega
                    have p2 : (0 : Int) ≤ (n : Int) + 1 := by omega
                    have p3 : (0 : Int) ≤ (n : Int) := by omega
                    have p4 : (n : Int) ≤ (Lc : Int) := by omega
                    have q5' : (Lc : Int) ≤ (n : Int) + 1 := by omega
                    have q6' : (Lc : Int) ≤ (ca : Int) := by omega
                    have p7 : (n : Int) ≤ (ca : Int) := by omega
                    have p8 : (n : Int) + 1 ≤ (ca : Int) := by omega
                    have HW5 : Hid _ := And.intro hvw hva5
                    clear hr1 hr2 ho8 hg8 hor8 stB S8 bb8 S5 bb5 ha5 stA ho5 hg5 hor5 hw4 HS4 HB4 hcutw hcuta
                    rw [hvw, hva5]
                    go_wp2_with fail
                    rw [← HW5.out.1]
                    refine (Calls.mono HP.out) ?_
                    rintro e w6 ⟨⟨kk, rfl, hpl⟩, rfl⟩
                    have hkk : kk = (n : Int) := by
                      rcases hpl.is with ⟨-, h⟩ | ⟨h, -⟩
                      · exact absurd HIn.out.1 h
                      · rw [h, HIn.out.2]
                    subst hkk
                    rw [HW5.out.1]
                    clear HP hpl
                    go_wp2_with fail
                    refine wp_region_held_drew (S := fun W => True) (by as_aux_lemma => kernel_rfl) (trivial) (fun hS => ?_)
                    refine any_take (i := 0) (v := ?_) rfl (by as_aux_lemma => kernel_rfl) (by as_aux_lemma => kernel_rfl) (by as_aux_lemma => kernel_rfl) (by exact fun _ _ _ h => h) (by rfl) ?_ hS ?_
                    rotate_left
                    · ((intro w hSw; (try dsimp only at hSw); go_simp) <;> with_reducible rfl)
                    (try simp only [Act.put, List.setIfInBounds_toArray, List.set_cons_zero, List.set_cons_succ])
                    refine any_take (i := 1) (v := ?_) rfl (by as_aux_lemma => kernel_rfl) (by as_aux_lemma => kernel_rfl) (by as_aux_lemma => kernel_rfl) (by exact fun _ _ _ h => h) (by rfl) ?_ hS ?_
                    rotate_left
                    · ((intro w hSw; (try dsimp only at hSw); go_simp) <;> with_reducible rfl)
                    (try simp only [Act.put, List.setIfInBounds_toArray, List.set_cons_zero, List.set_cons_succ])
                    refine any_take (i := 2) (v := ?_) rfl (by as_aux_lemma => kernel_rfl) (by as_aux_lemma => kernel_rfl) (by as_aux_lemma => kernel_rfl) (by exact fun _ _ _ h => h) (by rfl) ?_ hS ?_
                    rotate_left
                    · ((intro w hSw; (try dsimp only at hSw); go_simp) <;> with_reducible rfl)
                    (try simp only [Act.put, List.setIfInBounds_toArray, List.set_cons_zero, List.set_cons_succ])
                    refine any_take (i := 3) (v := ?_) rfl (by as_aux_lemma => kernel_rfl) (by as_aux_lemma => kernel_rfl) (by as_aux_lemma => kernel_rfl) (by exact fun _ _ _ h => h) (by rfl) ?_ hS ?_
                    rotate_left
                    · ((intro w hSw; (try dsimp only at hSw); go_simp) <;> with_reducible rfl)
                    (try simp only [Act.put, List.setIfInBounds_toArray, List.set_cons_zero, List.set_cons_succ])
                    refine any_take (i := 4) (v := ?_) rfl (by as_aux_lemma => kernel_rfl) (by as_aux_lemma => kernel_rfl) (by as_aux_lemma => kernel_rfl) (by exact fun _ _ _ h => h) (by rfl) ?_ hS ?_
                    rotate_left
                    · ((intro w hSw; (try dsimp only at hSw); go_simp) <;> with_reducible rfl)
                    (try simp only [Act.put, List.setIfInBounds_toArray, List.set_cons_zero, List.set_cons_succ])
                    refine any_take (i := 5) (v := ?_) rfl (by as_aux_lemma => kernel_rfl) (by as_aux_lemma => kernel_rfl) (by as_aux_lemma => kernel_rfl) (by exact fun _ _ _ h => h) (by rfl) ?_ hS ?_
                    rotate_left
                    · ((intro w hSw; (try dsimp only at hSw); go_simp) <;> with_reducible rfl)
                    (try simp only [Act.put, List.setIfInBounds_toArray, List.set_cons_zero, List.set_cons_succ])
                    refine any_take (i := 6) (v := ?_) rfl (by as_aux_lemma => kernel_rfl) (by as_aux_lemma => kernel_rfl) (by as_aux_lemma => kernel_rfl) (by exact fun _ _ _ h => h) (by rfl) ?_ hS ?_
                    rotate_left
                    · ((intro w hSw; (try dsimp only at hSw); go_simp) <;> with_reducible rfl)
                    (try simp only [Act.put, List.setIfInBounds_toArray, List.set_cons_zero, List.set_cons_succ])
                    refine any_take (i := 7) (v := ?_) rfl (by as_aux_lemma => kernel_rfl) (by as_aux_lemma => kernel_rfl) (by as_aux_lemma => kernel_rfl) (by exact fun _ _ _ h => h) (by rfl) ?_ hS ?_
                    rotate_left
                    · ((intro w hSw; (try dsimp only at hSw); go_simp) <;> with_reducible rfl)
                    (try simp only [Act.put, List.setIfInBounds_toArray, List.set_cons_zero, List.set_cons_succ])
                    refine any_one (i := 8) rfl (by as_aux_lemma => kernel_rfl) (fun K hK => ?_)
                    refine step_run_app rfl (.tmp 111) (.tmp 115) 33 33 rfl _ _ (by simp [Act.eval] <;> omega) (by simp [Act.eval] <;> omega) H1.out ?_
                    (try simp only [Act.put, List.setIfInBounds_toArray, List.set_cons_zero, List.set_cons_succ])
                    refine hK.out _ _ trivial ?_
                    clear hK K
                    refine any_take (i := 9) (v := ?_) rfl (by as_aux_lemma => kernel_rfl) (by as_aux_lemma => kernel_rfl) (by as_aux_lemma => kernel_rfl) (by exact fun _ _ _ h => h) (by rfl) ?_ hS ?_
                    rotate_left
                    · ((intro w hSw; (try dsimp only at hSw); go_simp) <;> with_reducible rfl)
                    (try simp only [Act.put, List.setIfInBounds_toArray, List.set_cons_zero, List.set_cons_succ])
                    refine wpAnyH_done (by as_aux_lemma => kernel_rfl) ?_ _
                    go_wp2_with fail
                    refine wp_region_held_drew (S := fun W => True) (by as_aux_lemma => kernel_rfl) (trivial) (fun hS => ?_)
                    refine any_take (i := 0) (v := ?_) rfl (by as_aux_lemma => kernel_rfl) (by as_aux_lemma => kernel_rfl) (by as_aux_lemma => kernel_rfl) (by exact fun _ _ _ h => h) (by rfl) ?_ hS ?_
                    rotate_left
                    · ((intro w hSw; (try dsimp only at hSw); go_simp) <;> with_reducible rfl)
                    (try simp only [Act.put, List.setIfInBounds_toArray, List.set_cons_zero, List.set_cons_succ])
                    refine any_take (i := 1) (v := ?_) rfl (by as_aux_lemma => kernel_rfl) (by as_aux_lemma => kernel_rfl) (by as_aux_lemma => kernel_rfl) (by exact fun _ _ _ h => h) (by rfl) ?_ hS ?_
                    rotate_left
                    · ((intro w hSw; (try dsimp only at hSw); go_simp) <;> with_reducible rfl)
                    (try simp only [Act.put, List.setIfInBounds_toArray, List.set_cons_zero, List.set_cons_succ])
                    refine any_take (i := 2) (v := ?_) rfl (by as_aux_lemma => kernel_rfl) (by as_aux_lemma => kernel_rfl) (by as_aux_lemma => kernel_rfl) (by exact fun _ _ _ h => h) (by rfl) ?_ hS ?_
                    rotate_left
                    · ((intro w hSw; (try dsimp only at hSw); go_simp) <;> with_reducible rfl)
                    (try simp only [Act.put, List.setIfInBounds_toArray, List.set_cons_zero, List.set_cons_succ])
                    refine any_take (i := 3) (v := ?_) rfl (by as_aux_lemma => kernel_rfl) (by as_aux_lemma => kernel_rfl) (by as_aux_lemma => kernel_rfl) (by exact fun _ _ _ h => h) (by rfl) ?_ hS ?_
                    rotate_left
                    · ((intro w hSw; (try dsimp only at hSw); go_simp) <;> with_reducible rfl)
                    (try simp only [Act.put, List.setIfInBounds_toArray, List.set_cons_zero, List.set_cons_succ])
                    refine any_take (i := 4) (v := ?_) rfl (by as_aux_lemma => kernel_rfl) (by as_aux_lemma => kernel_rfl) (by as_aux_lemma => kernel_rfl) (by exact fun _ _ _ h => h) (by rfl) ?_ hS ?_
                    rotate_left
                    · ((intro w hSw; (try dsimp only at hSw); go_simp) <;> with_reducible rfl)
                    (try simp only [Act.put, List.setIfInBounds_toArray, List.set_cons_zero, List.set_cons_succ])
                    refine any_take (i := 5) (v := ?_) rfl (by as_aux_lemma => kernel_rfl) (by as_aux_lemma => kernel_rfl) (by as_aux_lemma => kernel_rfl) (by exact fun _ _ _ h => h) (by rfl) ?_ hS ?_
                    rotate_left
                    · ((intro w hSw; (try dsimp only at hSw); go_simp) <;> with_reducible rfl)
                    (try simp only [Act.put, List.setIfInBounds_toArray, List.set_cons_zero, List.set_cons_succ])
                    refine any_take (i := 6) (v := ?_) rfl (by as_aux_lemma => kernel_rfl) (by as_aux_lemma => kernel_rfl) (by as_aux_lemma => kernel_rfl) (by exact fun _ _ _ h => h) (by rfl) ?_ hS ?_
                    rotate_left
                    · ((intro w hSw; (try dsimp only at hSw); go_simp) <;> with_reducible rfl)
                    (try simp only [Act.put, List.setIfInBounds_toArray, List.set_cons_zero, List.set_cons_succ])
                    refine any_take (i := 7) (v := ?_) rfl (by as_aux_lemma => kernel_rfl) (by as_aux_lemma => kernel_rfl) (by as_aux_lemma => kernel_rfl) (by exact fun _ _ _ h => h) (by rfl) ?_ hS ?_
                    rotate_left
                    · ((intro w hSw; (try dsimp only at hSw); go_simp) <;> with_reducible rfl)
                    (try simp only [Act.put, List.setIfInBounds_toArray, List.set_cons_zero, List.set_cons_succ])
                    refine any_one (i := 8) rfl (by as_aux_lemma => kernel_rfl) (fun K hK => ?_)
                    refine step_run_app rfl (.tmp 120) (.tmp 124) 33 33 rfl _ _ (by simp [Act.eval] <;> omega) (by simp [Act.eval] <;> omega) H2.out ?_
                    (try simp only [Act.put, List.setIfInBounds_toArray, List.set_cons_zero, List.set_cons_succ])
                    refine hK.out _ _ trivial ?_
                    clear hK K
                    refine any_take (i := 9) (v := ?_) rfl (by as_aux_lemma => kernel_rfl) (by as_aux_lemma => kernel_rfl) (by as_aux_lemma => kernel_rfl) (by exact fun _ _ _ h => h) (by rfl) ?_ hS ?_
                    rotate_left
                    · ((intro w hSw; (try dsimp only at hSw); go_simp) <;> with_reducible rfl)
                    (try simp only [Act.put, List.setIfInBounds_toArray, List.set_cons_zero, List.set_cons_succ])
                    refine wpAnyH_done (by as_aux_lemma => kernel_rfl) ?_ _
                    go_wp2
                    go_roundw
                    case rel => exact ⟨j + 1, by go_num, by omega, by rw [hc1]; exact R.out, RB.out⟩
                    case measure => simp [intOf]; omega
                · obtain ⟨v5, w5, p5, hr1, ho5, hg5, hor5⟩ := hcutw ⟨bw, ow + (n + 1), none⟩ (Lc - (n + 1)) (cw - (n + 1)) 33 rfl (.inr rfl)
                  have stA : Step wr.drew w5 (nsOb u4 qw4 (ids c)) (nsOb v5 p5 ((ids c).eraseIdx n)) := ns_step (hw4.same (fun _ _ => rfl)) ho5 (grown_none hg5 _) hor5
                  obtain ⟨S5, bb5⟩ := sep_third HS4.out.drew stA
                  have ha5 := (S5.each (nsOb u5 qa4 (ixs c)) (by simp)).holds
                  obtain ⟨ba, oa, ca, hva5, hac5, hcuta⟩ := NSl.cut (w := w5.drew) (NSl.same ha5 (fun _ _ => rfl)) n (by simpa using hnl) (by simpa using hcl)
                  simp only [List.length_map] at hva5 hac5 hcuta
                  rw [hLc] at hva5 hac5 hcuta
                  by_cases hca : ca = n + 1
                  · subst hca
                    obtain ⟨v8, w8, p8, hr2, ho8, hg8, hor8⟩ := hcuta ⟨ba, oa, none⟩ 0 0 33 (by omega) (.inl rfl)
                    have stB : Step w5.drew w8 (nsOb u5 qa4 (ixs c)) (nsOb v8 p8 ((ixs c).eraseIdx n)) := ns_step (NSl.same ha5 (fun _ _ => rfl)) ho8 (grown_none hg8 _) hor8
                    obtain ⟨S8, bb8⟩ := sep_fourth S5.drew stB
                    have R : Hid (∃ q qw qa, Sep w.heap.size [nuOb u8 (ids K), rdOb g q (l2.filter (fun x => !P x)), nsOb v5 qw (ids c'), nsOb v8 qa (ixs c')] w8) := ⟨q4, p5, p8, by rw [eI, eX]; exact S8⟩
                    have RB : Hid (Below w.heap.size w w8) := (HB4.out.trans (((Below.refl _ _).drew).trans bb5)).trans (((Below.refl _ _).drew).trans bb8)
                    have H1 : Hid _ := hr1
                    have H2 : Hid _ := hr2
                    have q2 : (n : Int) < (Lc : Int) := by omega
                    have q3 : (n : Int) + 1 ≤ (Lc : Int) := by omega
                    have q4' : (Lc : Int) ≤ 1000 := by omega
                    have hwn : IntKind.i64.wrap ((n : Int) + 1) = (n : Int) + 1 := by rw [IntKind.wrap_i64] <;> omega
                    have p1 : (n : Int) ≤ (n : Int) + 1 := by omega
                    have p2 : (0 : Int) ≤ (n : Int) + 1 := by omega
                    have p3 : (0 : Int) ≤ (n : Int) := by omega
                    have p4 : (n : Int) ≤ (Lc : Int) := by omega
                    have q5' : (Lc : Int) ≤ (cw : Int) := by omega
                    have p5 : (n : Int) ≤ (cw : Int) := by omega
                    have p6 : (n : Int) + 1 ≤ (cw : Int) := by omega
                    have q6' : (Lc : Int) ≤ (n : Int) + 1 := by omega
                    have HW5 : Hid _ := And.intro hvw hva5
                    clear hr1 hr2 ho8 hg8 hor8 stB S8 bb8 S5 bb5 ha5 stA ho5 hg5 hor5 hw4 HS4 HB4 hcutw hcuta
                    rw [hvw, hva5]
                    go_wp2_with fail
                    rw [← HW5.out.1]
                    refine (Calls.mono HP.out) ?_
                    rintro e w6 ⟨⟨kk, rfl, hpl⟩, rfl⟩
                    have hkk : kk = (n : Int) := by
                      rcases hpl.is with ⟨-, h⟩ | ⟨h, -⟩
                      · exact absurd HIn.out.1 h
                      · rw [h, HIn.out.2]
                    subst hkk
                    rw [HW5.out.1]
                    clear HP hpl
                    go_wp2_with fail
                    refine wp_region_held_drew (S := fun W => True) (by as_aux_lemma => kernel_rfl) (trivial) (fun hS => ?_)
                    refine any_take (i := 0) (v := ?_) rfl (by as_aux_lemma => kernel_rfl) (by as_aux_lemma => kernel_rfl) (by as_aux_lemma => kernel_rfl) (by exact fun _ _ _ h => h) (by rfl) ?_ hS ?_
                    rotate_left
                    · ((intro w hSw; (try dsimp only at hSw); go_simp) <;> with_reducible rfl)
                    (try simp only [Act.put, List.setIfInBounds_toArray, List.set_cons_zero, List.set_cons_succ])
                    refine any_take (i := 1) (v := ?_) rfl (by as_aux_lemma => kernel_rfl) (by as_aux_lemma => kernel_rfl) (by as_aux_lemma => kernel_rfl) (by exact fun _ _ _ h => h) (by rfl) ?_ hS ?_
                    rotate_left
                    · ((intro w hSw; (try dsimp only at hSw); go_simp) <;> with_reducible rfl)
                    (try simp only [Act.put, List.setIfInBounds_toArray, List.set_cons_zero, List.set_cons_succ])
                    refine any_take (i := 2) (v := ?_) rfl (by as_aux_lemma => kernel_rfl) (by as_aux_lemma => kernel_rfl) (by as_aux_lemma => kernel_rfl) (by exact fun _ _ _ h => h) (by rfl) ?_ hS ?_
                    rotate_left
                    · ((intro w hSw; (try dsimp only at hSw); go_simp) <;> with_reducible rfl)
                    (try simp only [Act.put, List.setIfInBounds_toArray, List.set_cons_zero, List.set_cons_succ])
                    refine any_take (i := 3) (v := ?_) rfl (by as_aux_lemma => kernel_rfl) (by as_aux_lemma => kernel_rfl) (by as_aux_lemma => kernel_rfl) (by exact fun _ _ _ h => h) (by rfl) ?_ hS ?_
                    rotate_left
                    · ((intro w hSw; (try dsimp only at hSw); go_simp) <;> with_reducible rfl)
                    (try simp only [Act.put, List.setIfInBounds_toArray, List.set_cons_zero, List.set_cons_succ])
                    refine any_take (i := 4) (v := ?_) rfl (by as_aux_lemma => kernel_rfl) (by as_aux_lemma => kernel_rfl) (by as_aux_lemma => kernel_rfl) (by exact fun _ _ _ h => h) (by rfl) ?_ hS ?_
                    rotate_left
                    · ((intro w hSw; (try dsimp only at hSw); go_simp) <;> with_reducible rfl)
                    (try simp only [Act.put, List.setIfInBounds_toArray, List.set_cons_zero, List.set_cons_succ])
                    refine any_take (i := 5) (v := ?_) rfl (by as_aux_lemma => kernel_rfl) (by as_aux_lemma => kernel_rfl) (by as_aux_lemma => kernel_rfl) (by exact fun _ _ _ h => h) (by rfl) ?_ hS ?_
                    rotate_left
                    · ((intro w hSw; (try dsimp only at hSw); go_simp) <;> with_reducible rfl)
                    (try simp only [Act.put, List.setIfInBounds_toArray, List.set_cons_zero, List.set_cons_succ])
                    refine any_take (i := 6) (v := ?_) rfl (by as_aux_lemma => kernel_rfl) (by as_aux_lemma => kernel_rfl) (by as_aux_lemma => kernel_rfl) (by exact fun _ _ _ h => h) (by rfl) ?_ hS ?_
                    rotate_left
                    · ((intro w hSw; (try dsimp only at hSw); go_simp) <;> with_reducible rfl)
                    (try simp only [Act.put, List.setIfInBounds_toArray, List.set_cons_zero, List.set_cons_succ])
                    refine any_take (i := 7) (v := ?_) rfl (by as_aux_lemma => kernel_rfl) (by as_aux_lemma => kernel_rfl) (by as_aux_lemma => kernel_rfl) (by exact fun _ _ _ h => h) (by rfl) ?_ hS ?_
                    rotate_left
                    · ((intro w hSw; (try dsimp only at hSw); go_simp) <;> with_reducible rfl)
                    (try simp only [Act.put, List.setIfInBounds_toArray, List.set_cons_zero, List.set_cons_succ])
                    refine any_one (i := 8) rfl (by as_aux_lemma => kernel_rfl) (fun K hK => ?_)
                    refine step_run_app rfl (.tmp 111) (.tmp 115) 33 33 rfl _ _ (by simp [Act.eval] <;> omega) (by simp [Act.eval] <;> omega) H1.out ?_
                    (try simp only [Act.put, List.setIfInBounds_toArray, List.set_cons_zero, List.set_cons_succ])
                    refine hK.out _ _ trivial ?_
                    clear hK K
                    refine any_take (i := 9) (v := ?_) rfl (by as_aux_lemma => kernel_rfl) (by as_aux_lemma => kernel_rfl) (by as_aux_lemma => kernel_rfl) (by exact fun _ _ _ h => h) (by rfl) ?_ hS ?_
                    rotate_left
                    · ((intro w hSw; (try dsimp only at hSw); go_simp) <;> with_reducible rfl)
                    (try simp only [Act.put, List.setIfInBounds_toArray, List.set_cons_zero, List.set_cons_succ])
                    refine wpAnyH_done (by as_aux_lemma => kernel_rfl) ?_ _
                    go_wp2_with fail
                    refine wp_region_held_drew (S := fun W => True) (by as_aux_lemma => kernel_rfl) (trivial) (fun hS => ?_)
                    refine any_take (i := 0) (v := ?_) rfl (by as_aux_lemma => kernel_rfl) (by as_aux_lemma => kernel_rfl) (by as_aux_lemma => kernel_rfl) (by exact fun _ _ _ h => h) (by rfl) ?_ hS ?_
                    rotate_left
                    · ((intro w hSw; (try dsimp only at hSw); go_simp) <;> with_reducible rfl)
                    (try simp only [Act.put, List.setIfInBounds_toArray, List.set_cons_zero, List.set_cons_succ])
                    refine any_take (i := 1) (v := ?_) rfl (by as_aux_lemma => kernel_rfl) (by as_aux_lemma => kernel_rfl) (by as_aux_lemma => kernel_rfl) (by exact fun _ _ _ h => h) (by rfl) ?_ hS ?_
                    rotate_left
                    · ((intro w hSw; (try dsimp only at hSw); go_simp) <;> with_reducible rfl)
                    (try simp only [Act.put, List.setIfInBounds_toArray, List.set_cons_zero, List.set_cons_succ])
                    refine any_take (i := 2) (v := ?_) rfl (by as_aux_lemma => kernel_rfl) (by as_aux_lemma => kernel_rfl) (by as_aux_lemma => kernel_rfl) (by exact fun _ _ _ h => h) (by rfl) ?_ hS ?_
                    rotate_left
                    · ((intro w hSw; (try dsimp only at hSw); go_simp) <;> with_reducible rfl)
                    (try simp only [Act.put, List.setIfInBounds_toArray, List.set_cons_zero, List.set_cons_succ])
                    refine any_take (i := 3) (v := ?_) rfl (by as_aux_lemma => kernel_rfl) (by as_aux_lemma => kernel_rfl) (by as_aux_lemma => kernel_rfl) (by exact fun _ _ _ h => h) (by rfl) ?_ hS ?_
                    rotate_left
                    · ((intro w hSw; (try dsimp only at hSw); go_simp) <;> with_reducible rfl)
                    (try simp only [Act.put, List.setIfInBounds_toArray, List.set_cons_zero, List.set_cons_succ])
                    refine any_take (i := 4) (v := ?_) rfl (by as_aux_lemma => kernel_rfl) (by as_aux_lemma => kernel_rfl) (by as_aux_lemma => kernel_rfl) (by exact fun _ _ _ h => h) (by rfl) ?_ hS ?_
                    rotate_left
                    · ((intro w hSw; (try dsimp only at hSw); go_simp) <;> with_reducible rfl)
                    (try simp only [Act.put, List.setIfInBounds_toArray, List.set_cons_zero, List.set_cons_succ])
                    refine any_take (i := 5) (v := ?_) rfl (by as_aux_lemma => kernel_rfl) (by as_aux_lemma => kernel_rfl) (by as_aux_lemma => kernel_rfl) (by exact fun _ _ _ h => h) (by rfl) ?_ hS ?_
                    rotate_left
                    · ((intro w hSw; (try dsimp only at hSw); go_simp) <;> with_reducible rfl)
                    (try simp only [Act.put, List.setIfInBounds_toArray, List.set_cons_zero, List.set_cons_succ])
                    refine any_take (i := 6) (v := ?_) rfl (by as_aux_lemma => kernel_rfl) (by as_aux_lemma => kernel_rfl) (by as_aux_lemma => kernel_rfl) (by exact fun _ _ _ h => h) (by rfl) ?_ hS ?_
                    rotate_left
                    · ((intro w hSw; (try dsimp only at hSw); go_simp) <;> with_reducible rfl)
                    (try simp only [Act.put, List.setIfInBounds_toArray, List.set_cons_zero, List.set_cons_succ])
                    refine any_take (i := 7) (v := ?_) rfl (by as_aux_lemma => kernel_rfl) (by as_aux_lemma => kernel_rfl) (by as_aux_lemma => kernel_rfl) (by exact fun _ _ _ h => h) (by rfl) ?_ hS ?_
                    rotate_left
                    · ((intro w hSw; (try dsimp only at hSw); go_simp) <;> with_reducible rfl)
                    (try simp only [Act.put, List.setIfInBounds_toArray, List.set_cons_zero, List.set_cons_succ])
                    refine any_one (i := 8) rfl (by as_aux_lemma => kernel_rfl) (fun K hK => ?_)
                    refine step_run_app rfl (.tmp 120) (.tmp 124) 33 33 rfl _ _ (by simp [Act.eval] <;> omega) (by simp [Act.eval] <;> omega) H2.out ?_
                    (try simp only [Act.put, List.setIfInBounds_toArray, List.set_cons_zero, List.set_cons_succ])
                    refine hK.out _ _ trivial ?_
                    clear hK K
                    refine any_take (i := 9) (v := ?_) rfl (by as_aux_lemma => kernel_rfl) (by as_aux_lemma => kernel_rfl) (by as_aux_lemma => kernel_rfl) (by exact fun _ _ _ h => h) (by rfl) ?_ hS ?_
                    rotate_left
                    · ((intro w hSw; (try dsimp only at hSw); go_simp) <;> with_reducible rfl)
                    (try simp only [Act.put, List.setIfInBounds_toArray, List.set_cons_zero, List.set_cons_succ])
                    refine wpAnyH_done (by as_aux_lemma => kernel_rfl) ?_ _
                    go_wp2
                    go_roundw
                    case rel => exact ⟨j + 1, by go_num, by omega, by rw [hc1]; exact R.out, RB.out⟩
                    case measure => simp [intOf]; omega
                  · obtain ⟨v8, w8, p8, hr2, ho8, hg8, hor8⟩ := hcuta ⟨ba, oa + (n + 1), none⟩ (Lc - (n + 1)) (ca - (n + 1)) 33 rfl (.inr rfl)
                    have stB : Step w5.drew w8 (nsOb u5 qa4 (ixs c)) (nsOb v8 p8 ((ixs c).eraseIdx n)) := ns_step (NSl.same ha5 (fun _ _ => rfl)) ho8 (grown_none hg8 _) hor8
                    obtain ⟨S8, bb8⟩ := sep_fourth S5.drew stB
                    have R : Hid (∃ q qw qa, Sep w.heap.size [nuOb u8 (ids K), rdOb g q (l2.filter (fun x => !P x)), nsOb v5 qw (ids c'), nsOb v8 qa (ixs c')] w8) := ⟨q4, p5, p8, by rw [eI, eX]; exact S8⟩
                    have RB : Hid (Below w.heap.size w w8) := (HB4.out.trans (((Below.refl _ _).drew).trans bb5)).trans (((Below.refl _ _).drew).trans bb8)
                    have H1 : Hid _ := hr1
                    have H2 : Hid _ := hr2
                    have q2 : (n : Int) < (Lc : Int) := by omega
                    have q3 : (n : Int) + 1 ≤ (Lc : Int) := by omega
                    have q4' : (Lc : Int) ≤ 1000 := by omega
                    have hwn : IntKind.i64.wrap ((n : Int) + 1) = (n : Int) + 1 := by rw [IntKind.wrap_i64] <;> omega
                    have p1 : (n : Int) ≤ (n : Int) + 1 := by omega
                    have p2 : (0 : Int) ≤ (n : Int) + 1 := by omega
                    have p3 : (0 : Int) ≤ (n : Int) := by omega
                    have p4 : (n : Int) ≤ (Lc : Int) := by omega
                    have q5' : (Lc : Int) ≤ (cw : Int) := by omega
                    have p5 : (n : Int) ≤ (cw : Int) := by omega
                    have p6 : (n : Int) + 1 ≤ (cw : Int) := by omega
                    have q6' : (Lc : Int) ≤ (ca : Int) := by omega
                    have p7 : (n : Int) ≤ (ca : Int) := by omega
                    have p8 : (n : Int) + 1 ≤ (ca : Int) := by omega
                    have HW5 : Hid _ := And.intro hvw hva5
                    clear hr1 hr2 ho8 hg8 hor8 stB S8 bb8 S5 bb5 ha5 stA ho5 hg5 hor5 hw4 HS4 HB4 hcutw hcuta
                    rw [hvw, hva5]
                    go_wp2_with fail
                    rw [← HW5.out.1]
                    refine (Calls.mono HP.out) ?_
                    rintro e w6 ⟨⟨kk, rfl, hpl⟩, rfl⟩
                    have hkk : kk = (n : Int) := by
                      rcases hpl.is with ⟨-, h⟩ | ⟨h, -⟩
                      · exact absurd HIn.out.1 h
                      · rw [h, HIn.out.2]
                    subst hkk
                    rw [HW5.out.1]
                    clear HP hpl
                    go_wp2_with fail
                    refine wp_region_held_drew (S := fun W => True) (by as_aux_lemma => kernel_rfl) (trivial) (fun hS => ?_)
                    refine any_take (i := 0) (v := ?_) rfl (by as_aux_lemma => kernel_rfl) (by as_aux_lemma => kernel_rfl) (by as_aux_lemma => kernel_rfl) (by exact fun _ _ _ h => h) (by rfl) ?_ hS ?_
                    rotate_left
                    · ((intro w hSw; (try dsimp only at hSw); go_simp) <;> with_reducible rfl)
                    (try simp only [Act.put, List.setIfInBounds_toArray, List.set_cons_zero, List.set_cons_succ])
                    refine any_take (i := 1) (v := ?_) rfl (by as_aux_lemma => kernel_rfl) (by as_aux_lemma => kernel_rfl) (by as_aux_lemma => kernel_rfl) (by exact fun _ _ _ h => h) (by rfl) ?_ hS ?_
                    rotate_left
                    · ((intro w hSw; (try dsimp only at hSw); go_simp) <;> with_reducible rfl)
                    (try simp only [Act.put, List.setIfInBounds_toArray, List.set_cons_zero, List.set_cons_succ])
                    refine any_take (i := 2) (v := ?_) rfl (by as_aux_lemma => kernel_rfl) (by as_aux_lemma => kernel_rfl) (by as_aux_lemma => kernel_rfl) (by exact fun _ _ _ h => h) (by rfl) ?_ hS ?_
                    rotate_left
                    · ((intro w hSw; (try dsimp only at hSw); go_simp) <;> with_reducible rfl)
                    (try simp only [Act.put, List.setIfInBounds_toArray, List.set_cons_zero, List.set_cons_succ])
                    refine any_take (i := 3) (v := ?_) rfl (by as_aux_lemma => kernel_rfl) (by as_aux_lemma => kernel_rfl) (by as_aux_lemma => kernel_rfl) (by exact fun _ _ _ h => h) (by rfl) ?_ hS ?_
                    rotate_left
                    · ((intro w hSw; (try dsimp only at hSw); go_simp) <;> with_reducible rfl)
                    (try simp only [Act.put, List.setIfInBounds_toArray, List.set_cons_zero, List.set_cons_succ])
                    refine any_take (i := 4) (v := ?_) rfl (by as_aux_lemma => kernel_rfl) (by as_aux_lemma => kernel_rfl) (by as_aux_lemma => kernel_rfl) (by exact fun _ _ _ h => h) (by rfl) ?_ hS ?_
                    rotate_left
                    · ((intro w hSw; (try dsimp only at hSw); go_simp) <;> with_reducible rfl)
                    (try simp only [Act.put, List.setIfInBounds_toArray, List.set_cons_zero, List.set_cons_succ])
                    refine any_take (i := 5) (v := ?_) rfl (by as_aux_lemma => kernel_rfl) (by as_aux_lemma => kernel_rfl) (by as_aux_lemma => kernel_rfl) (by exact fun _ _ _ h => h) (by rfl) ?_ hS ?_
                    rotate_left
                    · ((intro w hSw; (try dsimp only at hSw); go_simp) <;> with_reducible rfl)
                    (try simp only [Act.put, List.setIfInBounds_toArray, List.set_cons_zero, List.set_cons_succ])
                    refine any_take (i := 6) (v := ?_) rfl (by as_aux_lemma => kernel_rfl) (by as_aux_lemma => kernel_rfl) (by as_aux_lemma => kernel_rfl) (by exact fun _ _ _ h => h) (by rfl) ?_ hS ?_
                    rotate_left
                    · ((intro w hSw; (try dsimp only at hSw); go_simp) <;> with_reducible rfl)
                    (try simp only [Act.put, List.setIfInBounds_toArray, List.set_cons_zero, List.set_cons_succ])
                    refine any_take (i := 7) (v := ?_) rfl (by as_aux_lemma => kernel_rfl) (by as_aux_lemma => kernel_rfl) (by as_aux_lemma => kernel_rfl) (by exact fun _ _ _ h => h) (by rfl) ?_ hS ?_
                    rotate_left
                    · ((intro w hSw; (try dsimp only at hSw); go_simp) <;> with_reducible rfl)
                    (try simp only [Act.put, List.setIfInBounds_toArray, List.set_cons_zero, List.set_cons_succ])
                    refine any_one (i := 8) rfl (by as_aux_lemma => kernel_rfl) (fun K hK => ?_)
                    refine step_run_app rfl (.tmp 111) (.tmp 115) 33 33 rfl _ _ (by simp [Act.eval] <;> omega) (by simp [Act.eval] <;> omega) H1.out ?_
                    (try simp only [Act.put, List.setIfInBounds_toArray, List.set_cons_zero, List.set_cons_succ])
                    refine hK.out _ _ trivial ?_
                    clear hK K
                    refine any_take (i := 9) (v := ?_) rfl (by as_aux_lemma => kernel_rfl) (by as_aux_lemma => kernel_rfl) (by as_aux_lemma => kernel_rfl) (by exact fun _ _ _ h => h) (by rfl) ?_ hS ?_
                    rotate_left
                    · ((intro w hSw; (try dsimp only at hSw); go_simp) <;> with_reducible rfl)
                    (try simp only [Act.put, List.setIfInBounds_toArray, List.set_cons_zero, List.set_cons_succ])
                    refine wpAnyH_done (by as_aux_lemma => kernel_rfl) ?_ _
                    go_wp2_with fail
                    refine wp_region_held_drew (S := fun W => True) (by as_aux_lemma => kernel_rfl) (trivial) (fun hS => ?_)
                    refine any_take (i := 0) (v := ?_) rfl (by as_aux_lemma => kernel_rfl) (by as_aux_lemma => kernel_rfl) (by as_aux_lemma => kernel_rfl) (by exact fun _ _ _ h => h) (by rfl) ?_ hS ?_
                    rotate_left
                    · ((intro w hSw; (try dsimp only at hSw); go_simp) <;> with_reducible rfl)
                    (try simp only [Act.put, List.setIfInBounds_toArray, List.set_cons_zero, List.set_cons_succ])
                    refine any_take (i := 1) (v := ?_) rfl (by as_aux_lemma => kernel_rfl) (by as_aux_lemma => kernel_rfl) (by as_aux_lemma => kernel_rfl) (by exact fun _ _ _ h => h) (by rfl) ?_ hS ?_
                    rotate_left
                    · ((intro w hSw; (try dsimp only at hSw); go_simp) <;> with_reducible rfl)
                    (try simp only [Act.put, List.setIfInBounds_toArray, List.set_cons_zero, List.set_cons_succ])
                    refine any_take (i := 2) (v := ?_) rfl (by as_aux_lemma => kernel_rfl) (by as_aux_lemma => kernel_rfl) (by as_aux_lemma => kernel_rfl) (by exact fun _ _ _ h => h) (by rfl) ?_ hS ?_
                    rotate_left
                    · ((intro w hSw; (try dsimp only at hSw); go_simp) <;> with_reducible rfl)
                    (try simp only [Act.put, List.setIfInBounds_toArray, List.set_cons_zero, List.set_cons_succ])
                    refine any_take (i := 3) (v := ?_) rfl (by as_aux_lemma => kernel_rfl) (by as_aux_lemma => kernel_rfl) (by as_aux_lemma => kernel_rfl) (by exact fun _ _ _ h => h) (by rfl) ?_ hS ?_
                    rotate_left
                    · ((intro w hSw; (try dsimp only at hSw); go_simp) <;> with_reducible rfl)
                    (try simp only [Act.put, List.setIfInBounds_toArray, List.set_cons_zero, List.set_cons_succ])
                    refine any_take (i := 4) (v := ?_) rfl (by as_aux_lemma => kernel_rfl) (by as_aux_lemma => kernel_rfl) (by as_aux_lemma => kernel_rfl) (by exact fun _ _ _ h => h) (by rfl) ?_ hS ?_
                    rotate_left
                    · ((intro w hSw; (try dsimp only at hSw); go_simp) <;> with_reducible rfl)
                    (try simp only [Act.put, List.setIfInBounds_toArray, List.set_cons_zero, List.set_cons_succ])
                    refine any_take (i := 5) (v := ?_) rfl (by as_aux_lemma => kernel_rfl) (by as_aux_lemma => kernel_rfl) (by as_aux_lemma => kernel_rfl) (by exact fun _ _ _ h => h) (by rfl) ?_ hS ?_
                    rotate_left
                    · ((intro w hSw; (try dsimp only at hSw); go_simp) <;> with_reducible rfl)
                    (try simp only [Act.put, List.setIfInBounds_toArray, List.set_cons_zero, List.set_cons_succ])
                    refine any_take (i := 6) (v := ?_) rfl (by as_aux_lemma => kernel_rfl) (by as_aux_lemma => kernel_rfl) (by as_aux_lemma => kernel_rfl) (by exact fun _ _ _ h => h) (by rfl) ?_ hS ?_
                    rotate_left
                    · ((intro w hSw; (try dsimp only at hSw); go_simp) <;> with_reducible rfl)
                    (try simp only [Act.put, List.setIfInBounds_toArray, List.set_cons_zero, List.set_cons_succ])
                    refine any_take (i := 7) (v := ?_) rfl (by as_aux_lemma => kernel_rfl) (by as_aux_lemma => kernel_rfl) (by as_aux_lemma => kernel_rfl) (by exact fun _ _ _ h => h) (by rfl) ?_ hS ?_
                    rotate_left
                    · ((intro w hSw; (try dsimp only at hSw); go_simp) <;> with_reducible rfl)
                    (try simp only [Act.put, List.setIfInBounds_toArray, List.set_cons_zero, List.set_cons_succ])
                    refine any_one (i := 8) rfl (by as_aux_lemma => kernel_rfl) (fun K hK => ?_)
                    refine step_run_app rfl (.tmp 120) (.tmp 124) 33 33 rfl _ _ (by simp [Act.eval] <;> omega) (by simp [Act.eval] <;> omega) H2.out ?_
                    (try simp only [Act.put, List.setIfInBounds_toArray, List.set_cons_zero, List.set_cons_succ])
                    refine hK.out _ _ trivial ?_
                    clear hK K
                    refine any_take (i := 9) (v := ?_) rfl (by as_aux_lemma => kernel_rfl) (by as_aux_lemma => kernel_rfl) (by as_aux_lemma => kernel_rfl) (by exact fun _ _ _ h => h) (by rfl) ?_ hS ?_
                    rotate_left
                    · ((intro w hSw; (try dsimp only at hSw); go_simp) <;> with_reducible rfl)
                    (try simp only [Act.put, List.setIfInBounds_toArray, List.set_cons_zero, List.set_cons_succ])
                    refine wpAnyH_done (by as_aux_lemma => kernel_rfl) ?_ _
                    go_wp2
                    go_roundw
                    case rel => exact ⟨j + 1, by go_num, by omega, by rw [hc1]; exact R.out, RB.out⟩
                    case measure => simp [intOf]; omega
              · obtain rfl : j = K.length := by omega
                have hl3 : leftK l2 (ids K) K.length = l2.filter (fun x => !P x) := by
                  have := leftK_all HT2.out.1.nd P
                  rw [HT2.out.2] at this
                  simpa using this
                obtain ⟨q4, qw4, qa4, hs4⟩ := hG.ex
                rw [hl3] at hs4
                have hfl : (l2.filter (fun x => !P x)).length ≤ 100 := Nat.le_trans (List.length_filter_le _ _) HT2.out.1.len
                have hs5 := hs4.tail
                have R : Hid (OnI w g u4 u5 (l2.filter (fun x => !P x)) wr) := ⟨⟨q4, qw4, qa4, hs5⟩, hfl, nd_filter HT2.out.1.nd _, fun x hx => HT2.out.1.top x (List.mem_filter.1 hx).1, hG.below⟩
                have HLn : Hid _ := rdLen_any g q4 (l2.filter (fun x => !P x)) wr hs5.head
                obtain ⟨wa, wc2, hwv5, -⟩ := NSl.open (hs5.each (nsOb u4 qw4 (ids (l2.filter (fun x => !P x)))) (by simp)).holds
                rw [List.length_map] at hwv5
                obtain ⟨av5, ac5, hav5, -⟩ := NSl.open (hs5.each (nsOb u5 qa4 (ixs (l2.filter (fun x => !P x)))) (by simp)).holds
                rw [List.length_map] at hav5
                generalize hLf : (l2.filter (fun x => !P x)).length = Lf at hwv5 hav5 HLn hfl
                have HW5 : Hid _ := And.intro hwv5 hav5
                clear hs4 hs5 hG hl3 HT2
                rw [hwv5, hav5]
                go_wp2_with fail
                refine (Calls.mono HLn.out) ?_
                rintro e w6 ⟨rfl, rfl⟩
                clear HLn
                rw [← HW5.out.1, ← HW5.out.2]
                rw [HW5.out.1, HW5.out.2]
                go_wp2
                go_roundw
                case rel => exact ⟨k + 1, l2.filter (fun x => !P x), by go_num, by omega, by rw [← HW5.out.1, ← HW5.out.2]; exact R.out⟩
                case measure => simp [intOf]; omega
    · have hcs : ¬ (k : Int) < sl ∨ ((k : Int) < sl ∧ ¬ (k : Int) < 100) := by omega
      clear hcc
      rcases hcs with h1 | ⟨h1, h2⟩
      all_goals
        go_wp2_with fail
        refine (Calls.mono (HK.out _)) ?_
        rintro e x5 ⟨rfl, b5⟩
        have F : Hid _ := below_then HI.out.below b5
        clear b5
        go_wp2
        go_ret
        exact ⟨rfl, F.out⟩
end Go.Proofs.Ytjelbekjmfnenaa
