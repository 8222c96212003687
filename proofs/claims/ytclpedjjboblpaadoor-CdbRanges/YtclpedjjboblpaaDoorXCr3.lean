/- cdb: Ranges, the program's and the document's. -/
import Derived.Test.YtclpedjjboblpaaDoorXCr2
namespace Go.Proofs.YtclpedjjboblpaaDoor
open Go.RowKit
set_option linter.unusedVariables false
set_option linter.unusedSimpArgs false
set_option maxRecDepth 8000

/-- a reader, and ranges that were read -/
structure RnI (K : Kd Rg) (T : Nat) (w W : World) (F : List Nat) (g : Nat) (lv : Value) (q : Option Nat) (ll : List Rg) (D : List (BitVec 8)) : Prop where
  rd : Rd W F g T D 0
  ls : GSl K W lv q ll
  sub : ∀ b, q = some b → b ∈ F
  new : ∀ b, q = some b → w.heap.size ≤ b ∧ b ≠ g
  bl : Below w.heap.size w W
  ge : w.heap.size ≤ g
section
variable {K : Kd Rg} {T : Nat} {w W W' : World} {F F' : List Nat} {g : Nat} {lv : Value} {q : Option Nat} {ll : List Rg} {D D' : List (BitVec 8)}
theorem RnI.later (h : RnI K T w W F g lv q ll D) (hb : Below W.heap.size W W') : RnI K T w W' F g lv q ll D :=
  ⟨h.rd.later hb, h.ls.later hb, h.sub, h.new, below_then h.bl hb, h.ge⟩
theorem RnI.num (h : RnI K T w W F g lv q ll D) (hr : Rd W' F g T D' 0) (hg : W.grownBy W' (some g)) : RnI K T w W' F g lv q ll D' :=
  ⟨hr, h.ls.same (fun k hk => hg.block k (h.ls.lt k hk) (fun e => (h.new k hk).2 (Option.some.inj e))), h.sub, h.new, h.bl.grown hg h.bl.size (fun k e => by cases e; exact h.ge), h.ge⟩
theorem RnI.box (h : RnI K T w W F g lv q ll D) (U : Nat) (xs : List Value) : RnI K T w (W.alloc (.cells xs.toArray U)) (W.heap.size :: F) g lv q ll D := by
  have hb : Below W.heap.size W (W.alloc (.cells xs.toArray U)) := (Below.refl _ _).alloc (Nat.le_refl _) _
  have h1 := h.later hb
  exact ⟨(h.rd.more W.heap.size (Nat.le_refl _)).later hb, h1.ls, fun b e => List.mem_cons_of_mem _ (h.sub b e), h.new, h1.bl, h.ge⟩
theorem RnI.set (h : RnI K T w W F g lv q ll D) (xb i : Nat) (v : Value) (hF : xb ∈ F) (hx : xb ≠ g) (hq : q ≠ some xb) (hw : w.heap.size ≤ xb) : RnI K T w (W.setCell ⟨xb, i, none⟩ v) F g lv q ll D := by
  have hg := grown_set W xb i v
  exact ⟨h.rd.keep hg (fun k e => by cases e; exact ⟨hx, .inl hF⟩), h.ls.same (fun k hk => hg.block k (h.ls.lt k hk) (fun e => hq (hk.trans e))), h.sub, h.new, h.bl.grown hg h.bl.size (fun k e => by cases e; exact hw), h.ge⟩
theorem RnI.less (h : RnI K T w W F g lv q ll D) (hs : ∀ k ∈ F', k ∈ F) (hq : ∀ b, q = some b → b ∈ F') : RnI K T w W F' g lv q ll D :=
  ⟨h.rd.less hs, h.ls, hq, h.new, h.bl, h.ge⟩
theorem RnI.more (h : RnI K T w W F g lv q ll D) (hK : K.Ok) (x : Rg) (cs : List Value) (hcs : K.f x = cs) (h1 : ll.length + 1 ≤ 100000) (hbs : K.bs = 16) :
    ∃ a2 n2 c2 w2 q2 F2, (Builtin.append_ #[K.T, K.T] K.T #[lv, .slice (some ⟨W.heap.size, 0, Option.none⟩) 1 1]).run Tryd.prog (W.alloc (.cells cs.toArray K.E)) = .ok (.slice a2 n2 c2) w2 ∧ n2 = ll.length + 1 ∧ RnI K T w w2 F2 g (.slice a2 n2 c2) q2 (ll ++ [x]) D := by
  have hB := h.box K.E cs
  have bn : Below W.heap.size W (W.alloc (.cells cs.toArray K.E)) := (Below.refl _ _).alloc (Nat.le_refl _) _
  have hx : GAt K (W.alloc (.cells cs.toArray K.E)) (.slice (some ⟨W.heap.size, 0, Option.none⟩) 1 1) [x] := by
    refine ⟨_, 1, rfl, by simp, (fun h => by cases h), fun ad h j u hj => ?_⟩
    cases h
    rw [Addr.add_lit, blk_at (Blk.new' W K.E cs), Nat.zero_add]
    simpa [Kd.cs, hcs] using hj
  obtain ⟨v2, w2, q2, hr, ho, hg, hor⟩ := hB.ls.appendB hK hx (by simp; omega) (by rw [hbs]; simp; omega) K.T
  obtain ⟨a2, c2, e2, -, -, -⟩ := ho.cell hK
  subst e2
  have hsz := hB.bl.size
  have hgl := hB.rd.blt
  have base : ∀ b, q2 = some b → w.heap.size ≤ b ∧ b ≠ g := fun b hb => by
    rcases hor b hb with e | e
    · exact h.new b e
    · exact ⟨by omega, by omega⟩
  have bel : Below w.heap.size w w2 := hB.bl.grown hg hB.bl.size (fun k e => (h.new k e).1)
  have hkeep : ∀ G, Rd (W.alloc (.cells cs.toArray K.E)) G g T D 0 → (∀ b, q = some b → b ∈ G) → Rd w2 G g T D 0 := fun G hG hqG => hG.keep hg (fun k e => ⟨(h.new k e).2, .inl (hqG k e)⟩)
  have key : ∃ F2, Rd w2 F2 g T D 0 ∧ ∀ b, q2 = some b → b ∈ F2 := by
    cases hq2 : q2 with
    | none => exact ⟨_, hkeep _ hB.rd hB.sub, fun b e => by cases e⟩
    | some b =>
      rcases hor b hq2 with e | e
      · exact ⟨_, hkeep _ hB.rd hB.sub, fun b' e' => by cases e'; exact hB.sub _ e⟩
      · exact ⟨b :: _, hkeep _ (hB.rd.more b e) (fun b' e' => List.mem_cons_of_mem _ (hB.sub b' e')), fun b' e' => by cases e'; exact List.mem_cons_self ..⟩
  obtain ⟨F2, k1, k2⟩ := key
  exact ⟨a2, _, c2, w2, q2, F2, hr, by simp, ⟨k1, ho, k2, base, bel, h.ge⟩⟩
end
theorem blk_grown {W W' : World} {b U : Nat} {xs : List Value} {q : Option Nat} (h : Blk W b U xs) (hg : W.grownBy W' q) (hq : q ≠ some b) : Blk W' b U xs := by
  have := hg.block b h.lt (fun e => hq e.symm)
  unfold Blk at *
  rw [this]; exact h
theorem rgR_short {l : List (BitVec 8)} (h : l.length < 8) : rgR l = ([], 10) := if_pos h
theorem rgR_head {l : List (BitVec 8)} (h : ¬ l.length < 8) (hh : rgHd l = false) : rgR l = ([], 11) := by
  unfold rgR; rw [if_neg h, if_neg (by rw [hh]; simp)]
theorem rgR_rest {l : List (BitVec 8)} (h : ¬ l.length < 8) (hh : rzL (l.drop 8) (rgN l) = false) : rgR l = ([], 11) := by
  unfold rgR; rw [if_neg h, if_neg (by rw [hh]; simp)]
theorem rgR_many {l : List (BitVec 8)} (h : ¬ l.length < 8) (hh : rgHd l = true) (hz : rzL (l.drop 8) (rgN l) = true) (hn : 32 < rgN l) : rgR l = ([], 3) := by
  unfold rgR; rw [if_neg h, if_pos ⟨hh, hz⟩, if_neg (by omega)]
theorem rgR_yes {l : List (BitVec 8)} (h : ¬ l.length < 8) (hh : rgHd l = true) (hz : rzL (l.drop 8) (rgN l) = true) (hn : rgN l ≤ 32) : rgR l = (rgL (l.drop 8) (rgN l), 0) := by
  unfold rgR; rw [if_neg h, if_pos ⟨hh, hz⟩, if_pos hn]
theorem rzL_no {d : List (BitVec 8)} {k n : Nat} (hk : k < n) (h : rz1 (d.drop (16 * k)) = false) : rzL d n = false := by
  rw [← Bool.not_eq_true]
  intro e
  have := rzL_less (k := k + 1) hk e
  rw [rzL_succ, h] at this
  simp at this
set_option maxHeartbeats 8000000 in
theorem prange_any (a : Option Addr) (c : Nat) (l : List (BitVec 8)) (w : World) (hle : l.length ≤ c) (hr : Row w a l) (hn : a = none → c = 0) (hlen : l.length ≤ 140737488351232) :
    Calls Tryd.prog 31 #[.slice a l.length c] w fun e w' => ∃ v, e = .returned (.tuple #[v, .int .i64 (rgR l).2]) ∧ RgI kRg w w' v (rgR l).1 := by
  by_cases h8 : l.length < 8
  · have e1 : Hid (rgR l = ([], 10)) := rgR_short h8
    have q1 : (l.length : Int) < 8 := by omega
    clear hr h8
    go_enter Tryd.func31, Tryd.ntmps31
    go_wp2
    refine bodyPost_ret (v := .tuple #[.slice none 0 0, .int .i64 10]) (by first | rfl | simp [results, Tryd.results31, go_sem]) rfl ?_
    exact ⟨_, by rw [e1.out], by rw [e1.out]; exact RgI.none (Below.refl _ _)⟩
  have q1 : decide ((l.length : Int) < 8) = false := decide_eq_false (by omega)
  have H8 : Hid _ := h8
  have HN : Hid _ := NewReader_any a l.length c l w rfl hle hr hn hlen
  clear hr
  have r1 := rd_k (l := l) 2 (by omega) (by omega) (by omega)
  have r2 := rd_k (l := l.drop 2) 2 (by omega) (by omega) (by rw [List.length_drop]; omega)
  have r3 := rd_k (l := (l.drop 2).drop 2) 4 (by omega) (by omega) (by simp only [List.length_drop]; omega)
  rw [(wrap_4 _ _ (by omega)).1] at r1 r2 r3
  have e8 : ((l.drop 2).drop 2).drop 4 = l.drop 8 := by simp only [List.drop_drop]
  rw [e8] at r3
  clear e8
  have hd : rgHd l = decide (((numTo l 0 2).toNat : Int) = (l.length : Int) - 2 ∧ ((numTo (l.drop 2) 0 2).toNat : Int) = (l.length : Int) - 8 ∧ ((numTo (l.drop 2) 0 2).toNat : Int) % 16 = 0 ∧ ((numTo ((l.drop 2).drop 2) 0 4).toNat : Int) = 0) := rfl
  have hNN : (rgN l : Int) = ((numTo (l.drop 2) 0 2).toNat : Int) / 16 := by unfold rgN; omega
  have hfew := rgN_few l
  have hHL := fun h => rgHd_len (l := l) h h8
  have p0 : (0 : Int) ≤ ((numTo (l.drop 2) 0 2).toNat : Int) := by omega
  generalize ((numTo l 0 2).toNat : Int) = V1 at *
  generalize ((numTo (l.drop 2) 0 2).toNat : Int) = V2 at *
  generalize ((numTo ((l.drop 2).drop 2) 0 4).toNat : Int) = V3 at *
  have HR : Hid _ := And.intro r1 (And.intro r2 r3)
  clear r1 r2 r3 h8
  go_enter Tryd.func31, Tryd.ntmps31
  go_wp2_with fail
  refine (Calls.mono HN.out) ?_
  rintro e u0 ⟨g, rfl, hg, R0, b0⟩
  have J0 : Hid _ := (⟨R0 [] (fun k h => by cases h), GSl.nil _ _, (fun b e => by cases e), (fun b e => by cases e), b0, hg⟩ : RnI kRg 109 w u0 [] g (.slice none 0 0) none [] l)
  clear R0 b0 HN hg
  have NN := Num_any [] g _ 0 2 u0 J0.out.rd
  rw [show rdNum _ 0 2 = _ from HR.out.1] at NN
  have HN : Hid _ := NN
  clear NN
  go_wp2_with fail
  refine (Calls.mono HN.out) ?_
  rintro e u1 ⟨rfl, R1, g1⟩
  have J1 : Hid _ := J0.out.num R1 g1
  clear R1 g1 HN J0
  have NN := Num_any [] g _ 0 2 u1 J1.out.rd
  rw [show rdNum _ 0 2 = _ from HR.out.2.1] at NN
  have HN : Hid _ := NN
  clear NN
  go_wp2_with fail
  refine (Calls.mono HN.out) ?_
  rintro e u2 ⟨rfl, R1, g1⟩
  have J2 : Hid _ := J1.out.num R1 g1
  clear R1 g1 HN J1
  have NN := Num_any [] g _ 0 4 u2 J2.out.rd
  rw [show rdNum _ 0 4 = _ from HR.out.2.2] at NN
  have HN : Hid _ := NN
  clear NN
  go_wp2_with fail
  refine (Calls.mono HN.out) ?_
  rintro e u3 ⟨rfl, R1, g1⟩
  have J3 : Hid _ := J2.out.num R1 g1
  clear R1 g1 HN J2
  clear HR
  by_cases hh : rgHd l = true
  · have hl2 := hHL hh
    have hv := of_decide_eq_true (hd.symm.trans hh)
    have v2 : V2 = 16 * (rgN l : Int) := by omega
    have d1 : (V1 != (l.length : Int) - 2) = false := by simpa using hv.1
    have d2 : (V2 != (l.length : Int) - 8) = false := by simpa using hv.2.1
    have d3 : (V2.tmod 16 != 0) = false := by rw [v2]; simp
    have d4 : (V3 != 0) = false := by simpa using hv.2.2.2
    have d5 : V2.tdiv 16 = (rgN l : Int) := by rw [v2]; simp
    have HH : Hid _ := And.intro hh hl2
    generalize hN : rgN l = N at *
    generalize hD : l.drop 8 = d at *
    have HD : Hid _ := And.intro hN hD
    have hdl : d.length = 16 * N := by rw [← hD, List.length_drop]; omega
    have HDL : Hid _ := hdl
    clear hv v2 hh hHL hd hNN hl2 hN hD hdl p0
    have J4q : RnI kRg 109 w u3 [] g (.slice none 0 0) none (rgL d 0) (d.drop (16 * 0)) := J3.out
    have J4 : Hid _ := J4q
    clear J4q J3
    go_wp2_with fail
    clear d1 d2 d3 d4
    go_loopw [8, 43] (fun lv iv wr => ∃ (k : Nat) (F : List Nat) (q : Option Nat), iv = .int .i64 k ∧ k ≤ N ∧ RnI kRg 109 w wr F g lv q (rgL d k) (d.drop (16 * k)) ∧ rzL d k = true) (fun _ iv _ => N - (intOf iv).toNat)
    case atStart => exact ⟨0, [], none, rfl, Nat.zero_le _, J4.out, rfl⟩
    case round =>
      obtain ⟨k, F, q, rfl, hk, hI, hz⟩ := hrel
      clear J4
      by_cases hlt : k < N
      · have q2 : (k : Int) < (N : Int) := by omega
        have hdk : (d.drop (16 * k)).length ≥ 16 := by rw [List.length_drop]; have := HDL.out; omega
        have hsn := rgL_succ d k
        have hzn := rzL_succ d k
        rw [hz, Bool.true_and] at hzn
        have hnx : d.drop (16 * (k + 1)) = (((d.drop (16 * k)).drop 8).drop 4).drop 4 := by simp only [List.drop_drop]; congr 1
        have hno := fun h => rzL_no (d := d) hlt h
        skip
        generalize hdd : d.drop (16 * k) = dd at *
        have r1 := rd_k (l := dd) 8 (by omega) (by omega) (by omega)
        have r2 := rd_k (l := dd.drop 8) 4 (by omega) (by omega) (by rw [List.length_drop]; omega)
        have r3 := rd_k (l := (dd.drop 8).drop 4) 4 (by omega) (by omega) (by simp only [List.length_drop]; omega)
        rw [(wrap_4 _ _ (by omega)).1] at r2 r3
        have bw := back_wrapC (numTo dd 0 8)
        have hx : rg1 dd = (numTo dd 0 8, ((numTo (dd.drop 8) 0 4).toNat : Int)) := rfl
        have hzz : rz1 dd = decide (((numTo ((dd.drop 8).drop 4) 0 4).toNat : Int) = 0) := rfl
        generalize numTo dd 0 8 = X1 at *
        generalize ((numTo (dd.drop 8) 0 4).toNat : Int) = X2 at *
        generalize ((numTo ((dd.drop 8).drop 4) 0 4).toNat : Int) = X3 at *
        have J5 : Hid _ := hI
        have HR : Hid _ := And.intro r1 (And.intro r2 (And.intro r3 (And.intro hsn (And.intro hzn (And.intro hnx (And.intro hno (And.intro hx hzz)))))))
        have hcast : (wrap64 (X1.toNat : Int)) = (wrap64 (X1.toNat : Int)) := rfl
        obtain ⟨a0, c0, e0, -, -, -⟩ := hI.ls.cell kRg_ok
        rw [rgL_len] at e0
        subst e0
        clear hI r1 r2 r3 hsn hzn hnx hno hx hzz hz hdk hcast hdd
        have NN := Num_any F g _ 0 8 wr J5.out.rd
        rw [show rdNum _ 0 8 = _ from HR.out.1] at NN
        have HN : Hid _ := NN
        clear NN
        go_wp2_with fail
        refine (Calls.mono HN.out) ?_
        rintro e u4 ⟨rfl, R1, g1⟩
        have J6 : Hid _ := J5.out.num R1 g1
        clear R1 g1 HN J5
        have NN := Num_any F g _ 0 4 u4 J6.out.rd
        rw [show rdNum _ 0 4 = _ from HR.out.2.1] at NN
        have HN : Hid _ := NN
        clear NN
        go_wp2_with fail
        refine (Calls.mono HN.out) ?_
        rintro e u5 ⟨rfl, R1, g1⟩
        have J7 : Hid _ := J6.out.num R1 g1
        clear R1 g1 HN J6
        obtain ⟨a2, n2, c2, w2, q2', F2, hap, hn2, I2⟩ := J7.out.more kRg_ok (X1, X2) [.int .u64 (X1.toNat : Int), .int .i64 X2] rfl (by rw [rgL_len]; omega) rfl
        rw [rgL_len] at hn2
        subst hn2
        rw [← HR.out.2.2.2.2.2.2.2.1, ← HR.out.2.2.2.1] at I2
        have J8 : Hid _ := And.intro hap I2
        clear hap I2 J7
        generalize hX1 : (X1.toNat : Int) = Y1 at *
        go_wp2_with (at_builtin; refine wpList_run_app rfl _ _ 55 55 rfl _ _ rfl rfl J8.out.1 ?_)
        have NN := Num_any F2 g _ 0 4 w2 J8.out.2.rd
        rw [show rdNum _ 0 4 = _ from HR.out.2.2.1] at NN
        have HN : Hid _ := NN
        clear NN
        (try go_wp2_with fail)
        refine (Calls.mono HN.out) ?_
        rintro e u6 ⟨rfl, R1, g1⟩
        have J9q := J8.out.2.num R1 g1
        rw [← HR.out.2.2.2.2.2.1] at J9q
        have J9 : Hid _ := J9q
        clear R1 g1 HN J8 J9q
        by_cases hx3 : X3 = 0
        · have hzk : rzL d (k + 1) = true := by rw [HR.out.2.2.2.2.1, HR.out.2.2.2.2.2.2.2.2]; exact decide_eq_true hx3
          have d9 : (X3 != 0) = false := by simpa using hx3
          have F9 : Hid _ := And.intro J9.out hzk
          clear hzk hx3 J9 HR hX1 bw
          go_wp2
          go_roundw
          case rel => exact ⟨k + 1, F2, q2', by go_num, by omega, F9.out.1, F9.out.2⟩
          case measure => simp [intOf]; omega
        · have e1q : rgR l = ([], 11) := rgR_rest H8.out (by rw [HD.out.1, HD.out.2]; exact HR.out.2.2.2.2.2.2.1 (by rw [HR.out.2.2.2.2.2.2.2.2]; exact decide_eq_false hx3))
          have e1 : Hid _ := And.intro e1q trivial
          have d9 : (X3 != 0) = true := by simpa using hx3
          have F9 : Hid _ := J9.out.bl
          clear hx3 J9 HR hX1 bw e1q
          go_wp2
          refine bodyPost_ret (v := .tuple #[.slice none 0 0, .int .i64 11]) (by first | rfl | simp [results, Tryd.results31, go_sem]) rfl ?_
          exact ⟨_, by rw [e1.out.1], by rw [e1.out.1]; exact RgI.none F9.out⟩
      · obtain rfl : k = N := by omega
        obtain ⟨a0, c0, e0, -, -, -⟩ := hI.ls.cell kRg_ok
        rw [rgL_len] at e0
        subst e0
        by_cases hm : 32 < k
        · have e1q : rgR l = ([], 3) := rgR_many H8.out HH.out.1 (by rw [HD.out.1, HD.out.2]; exact hz) (by rw [HD.out.1]; exact hm)
          have e1 : Hid _ := And.intro e1q trivial
          have q5 : (k : Int) > 32 := by omega
          have F9 : Hid _ := hI.bl
          clear hI hz e1q
          go_wp2
          refine bodyPost_ret (v := .tuple #[.slice none 0 0, .int .i64 3]) (by first | rfl | simp [results, Tryd.results31, go_sem]) rfl ?_
          exact ⟨_, by rw [e1.out.1], by rw [e1.out.1]; exact RgI.none F9.out⟩
        · have e1q : rgR l = (rgL d k, 0) := by have := rgR_yes H8.out HH.out.1 (by rw [HD.out.1, HD.out.2]; exact hz) (by rw [HD.out.1]; omega); rw [HD.out.1, HD.out.2] at this; exact this
          have e1 : Hid _ := And.intro e1q trivial
          have q5 : decide ((k : Int) > 32) = false := decide_eq_false (by omega)
          have F9 : Hid _ := (⟨⟨q, hI.ls, fun b e => (hI.new b e).1⟩, hI.bl⟩ : RgI kRg w wr (.slice a0 k c0) (rgL d k))
          clear hI hz e1q hm
          go_wp2
          refine bodyPost_ret (v := .tuple #[.slice a0 k c0, .int .i64 0]) (by first | rfl | simp [results, Tryd.results31, go_sem]) rfl ?_
          exact ⟨_, by rw [e1.out.1], by rw [e1.out.1]; exact F9.out⟩
  · have e1q : rgR l = ([], 11) := rgR_head H8.out (by simpa using hh)
    have e1 : Hid _ := And.intro e1q trivial
    have F9 : Hid _ := J3.out.bl
    have hv := of_decide_eq_false (hd.symm.trans (by simpa using hh))
    have t16 : V2.tmod 16 = V2 % 16 := Int.tmod_eq_emod_of_nonneg p0
    clear e1q J3 hHL hd hNN hh p0
    by_cases d1 : V1 = (l.length : Int) - 2
    · by_cases d2 : V2 = (l.length : Int) - 8
      · by_cases d3 : V2 % 16 = 0
        · have d4 : V3 ≠ 0 := fun e => hv ⟨d1, d2, d3, e⟩
          have k1 : (V1 != (l.length : Int) - 2) = false := by simpa using d1
          have k2 : (V2 != (l.length : Int) - 8) = false := by simpa using d2
          have k3 : (V2.tmod 16 != 0) = false := by rw [t16]; simpa using d3
          clear d1 d2 d3 hv t16
          go_wp2
          refine bodyPost_ret (v := .tuple #[.slice none 0 0, .int .i64 11]) (by first | rfl | simp [results, Tryd.results31, go_sem]) rfl ?_
          exact ⟨_, by rw [e1.out.1], by rw [e1.out.1]; exact RgI.none F9.out⟩
        · have k1 : (V1 != (l.length : Int) - 2) = false := by simpa using d1
          have k2 : (V2 != (l.length : Int) - 8) = false := by simpa using d2
          have k3 : ¬ V2.tmod 16 = 0 := by rw [t16]; exact d3
          clear d1 d2 d3 hv t16
          go_wp2
          refine bodyPost_ret (v := .tuple #[.slice none 0 0, .int .i64 11]) (by first | rfl | simp [results, Tryd.results31, go_sem]) rfl ?_
          exact ⟨_, by rw [e1.out.1], by rw [e1.out.1]; exact RgI.none F9.out⟩
      · have k1 : (V1 != (l.length : Int) - 2) = false := by simpa using d1
        have k2 : (V2 != (l.length : Int) - 8) = true := by simpa using d2
        clear d1 d2 hv t16
        go_wp2
        refine bodyPost_ret (v := .tuple #[.slice none 0 0, .int .i64 11]) (by first | rfl | simp [results, Tryd.results31, go_sem]) rfl ?_
        exact ⟨_, by rw [e1.out.1], by rw [e1.out.1]; exact RgI.none F9.out⟩
    · have k1 : (V1 != (l.length : Int) - 2) = true := by simpa using d1
      clear d1 hv t16
      go_wp2
      refine bodyPost_ret (v := .tuple #[.slice none 0 0, .int .i64 11]) (by first | rfl | simp [results, Tryd.results31, go_sem]) rfl ?_
      exact ⟨_, by rw [e1.out.1], by rw [e1.out.1]; exact RgI.none F9.out⟩
end Go.Proofs.YtclpedjjboblpaaDoor

