/- An answer is kept, and none goes. -/
import Derived.Test.YtkcbbaanlkpeiaaXDd16
namespace Go.Proofs.Ytkcbbaanlkpeiaa
open Go.RowKit
set_option linter.unusedVariables false
set_option linter.unusedSimpArgs false
set_option maxRecDepth 4000

theorem InsC.later {w w' : World} {v : Value} {i : Nat} {a b : Int} {s : ByteArray} {l' : List An} (h : InsC w v i a b s l') (hb : Below w.heap.size w w') : InsC w' v i a b s l' :=
  fun W k hW hB hk => h W k (below_then hb hW) hB (Nat.le_trans hb.size hk)
theorem PutR.since {R : Nat → Prop} {g o : Nat} {w w0 w' W : World} {v v' : Value} {l' : List An} (h : PutR R g o w v l' w' W v') (hb : Below w0.heap.size w0 w) : PutR R g o w0 v l' w' W v' :=
  ⟨h.eq, (tnd_of hb).trans (h.turned.mono (fun k e => .inl e)), h.own, fun k e => (h.or k e).imp id (fun q => Nat.le_trans hb.size q)⟩
theorem ddsize_any (g o : Nat) (va : Option Addr) (n vc : Nat) (w : World) (hc : w.cell? ⟨g, o, none⟩ = some (.slice va n vc)) :
    Calls Try.prog 34 #[.pointer (some ⟨g, o, none⟩)] w fun e w' => e = .returned (.int .i64 n) ∧ w = w' := by
  go_enter Try.func34, Try.ntmps34
  go_wp2
  go_ret
  exact ⟨rfl, rfl⟩
set_option maxHeartbeats 4000000 in
theorem ddkeep_few (R : Nat → Prop) (g o TG : Nat) (cs : List Value) (v : Value) (l l' : List An) (a b : Int) (s : ByteArray) (i : Nat) (w : World) (hG : Blk w g TG cs) (hco : cs[o + 1]? = some v) (hRg : ¬ R g) (hRv : ∀ k, v.ownBlock = some k → R k) (hRn : ∀ k, R k → k < w.heap.size)
    (ho : AOwn w v l) (hr : Rise l) (hl : l.length ≤ 1000) (hi : SlotIs l b i) (hI : InsC w v i a b s l') (hfew : l'.length ≤ 64) :
    Calls Try.prog 44 #[.pointer (some ⟨g, o, none⟩), .agg #[.int .i64 a, .int .i64 b, .string s]] w fun e w' => e = .returned (.tuple #[]) ∧ ∃ W v', PutR R g (o + 1) w v l' w' W v' := by
  have b0 : Below w.heap.size w (w.alloc (.cells #[.int .i64 a, .int .i64 b, .string s] 90)) := (Below.refl _ _).alloc (Nat.le_refl _) _
  have A0 := Blk.new' w 90 [.int .i64 a, .int .i64 b, .string s]
  have HP : Hid (∀ W, Below w.heap.size w W → Calls Try.prog 57 #[.pointer (some ⟨g, o + 1, none⟩), .agg #[.int .i64 a, .int .i64 b, .string s]] W fun e w' => e = .returned (.tuple #[]) ∧ ∃ W1 v', PutR R g (o + 1) w v l' w' W1 v') := fun W hW => by
    refine (ddput_any R g (o + 1) TG cs v l l' a b s i W (hG.laterB hW) hco hRg hRv (fun k e => Nat.lt_of_lt_of_le (hRn k e) hW.size) (ho.later hW) hr hl hi (hI.later hW)).mono ?_
    rintro e w' ⟨rfl, W1, v', h⟩
    exact ⟨rfl, W1, v', h.since hW⟩
  have cellP : ∀ {w' W1 : World} {v' : Value}, PutR R g (o + 1) w v l' w' W1 v' → w'.cell? ⟨g, o + 1, none⟩ = some v' := fun {w' W1 v'} h => by
    have B1 := (hG.turned h.turned hRg).set (o + 1) v'
    rw [h.eq, blk_at B1, List.getElem?_set_self (by
      rcases Nat.lt_or_ge (o + 1) cs.length with q | q
      · exact q
      · rw [List.getElem?_eq_none q] at hco; cases hco)]
  have k0 : ∀ W, Below (w.alloc (.cells #[.int .i64 a, .int .i64 b, .string s] 90)).heap.size (w.alloc (.cells #[.int .i64 a, .int .i64 b, .string s] 90)) W → W.cell? ⟨w.heap.size, 0, none⟩ = some (.int .i64 a) := fun W hW => by rw [blk_at (A0.laterB hW)]; rfl
  have k1 : ∀ W, Below (w.alloc (.cells #[.int .i64 a, .int .i64 b, .string s] 90)).heap.size (w.alloc (.cells #[.int .i64 a, .int .i64 b, .string s] 90)) W → W.cell? ⟨w.heap.size, 1, none⟩ = some (.int .i64 b) := fun W hW => by rw [blk_at (A0.laterB hW)]; rfl
  have k2 : ∀ W, Below (w.alloc (.cells #[.int .i64 a, .int .i64 b, .string s] 90)).heap.size (w.alloc (.cells #[.int .i64 a, .int .i64 b, .string s] 90)) W → W.cell? ⟨w.heap.size, 2, none⟩ = some (.string s) := fun W hW => by rw [blk_at (A0.laterB hW)]; rfl
  have bd : Below w.heap.size w (w.alloc (.cells #[.int .i64 a, .int .i64 b, .string s] 90)).drew := below_then b0 (Below.refl _ _).drew
  have B0 : Hid _ := And.intro b0 bd
  clear hG hco A0 hI ho hr hi hRg hRv hRn b0 bd hl
  go_enter Try.func44, Try.ntmps44
  go_wp2_with fail
  generalize w.alloc (.cells #[.int .i64 a, .int .i64 b, .string s] 90) = w1 at *
  refine e_begin (S := fun W => Below w1.heap.size w1 W) 4 (by kernel_rfl) ((Below.refl _ _).drew) (fun hS => ?_)
  refine e_take (i := 0) (v := ?_) [1, 2, 4] rfl (by kernel_rfl) (by kernel_rfl) (by kernel_rfl) (by kernel_rfl) (by exact fun _ _ _ h => h) (by rfl) ?_ hS ?_
  rotate_left
  · ((intro w hSw; (try dsimp only at hSw); go_simp) <;> with_reducible rfl)
  (try simp only [Act.put, List.setIfInBounds_toArray, List.set_cons_zero, List.set_cons_succ])
  refine e_take (i := 1) (v := ?_) [2, 4] rfl (by kernel_rfl) (by kernel_rfl) (by kernel_rfl) (by kernel_rfl) (by exact fun _ _ _ h => h) (by rfl) ?_ hS ?_
  rotate_left
  · ((intro w hSw; (try dsimp only at hSw); go_simp) <;> with_reducible rfl)
  (try simp only [Act.put, List.setIfInBounds_toArray, List.set_cons_zero, List.set_cons_succ])
  refine e_take (i := 2) (v := ?_) [4] rfl (by kernel_rfl) (by kernel_rfl) (by kernel_rfl) (by kernel_rfl) (by exact fun _ _ _ h => h) (by rfl) ?_ hS ?_
  rotate_left
  · ((intro w hSw; (try dsimp only at hSw); go_simp) <;> with_reducible rfl)
  (try simp only [Act.put, List.setIfInBounds_toArray, List.set_cons_zero, List.set_cons_succ])
  refine e_take (i := 3) (v := ?_) [4] rfl (by kernel_rfl) (by kernel_rfl) (by kernel_rfl) (by kernel_rfl) (by exact fun _ _ _ h => h) (by rfl) ?_ hS ?_
  rotate_left
  · ((intro w hSw; (try dsimp only at hSw); go_simp) <;> with_reducible rfl)
  (try simp only [Act.put, List.setIfInBounds_toArray, List.set_cons_zero, List.set_cons_succ])
  clear hS
  refine e_last (z := 4) rfl (by kernel_rfl) (fun K hK => ?_)
  go_simp
  refine (Calls.mono (HP.out _ B0.out.2)) ?_
  rintro e w2 ⟨rfl, W, v', hP⟩
  obtain ⟨va', vc', hv', -, -⟩ := hP.own.open
  have y1 := cellP hP
  have F : Hid _ := hP
  rw [hv'] at y1
  clear hP HP
  go_wp2_with fail
  refine hK.out _ _ ?_
  clear hK K
  refine e_done (by kernel_rfl) ?_ _
  have hfew' : ¬ (l'.length : Int) > 64 := by omega
  have HS : Hid _ := ddsize_any g (o + 1) va' l'.length vc' w2 y1
  clear k0 k1 k2 B0 y1 cellP
  go_wp2_with fail
  refine (Calls.mono HS.out) ?_
  rintro e w3 ⟨rfl, rfl⟩
  go_wp2
  go_end0
  exact ⟨rfl, W, v', F.out⟩
theorem own12_strs {w : World} {base : Nat} {v : Value} {l : List (BitVec 8)} (h : Own w base v l) : ∃ a len cap, v = .slice a len cap ∧ ∀ X, Below w.heap.size w X → (convert 22 9 (.slice a len cap)).run Try.prog X = .ok (.string (str l)) X := by
  obtain ⟨a, cap, hv, _, _, hr, _, _⟩ := h.open
  exact ⟨a, _, cap, hv, fun X hX => (hr.later hX).str _ _ rfl⟩
set_option maxHeartbeats 4000000 in
theorem ddPut_few (R : Nat → Prop) (g q : Nat) (cs : List Value) (v : Value) (l l' : List An) (n fl : Int) (ra rb rc rd : Int) (rx : Option Addr) (cp : Nat) (dl : List (BitVec 8)) (i : Nat) (w : World) (hq : q < 16) (hcan : canP q n = true) (hE : prE ra rb rc rd dl.length = 0)
    (hG : Blk w g 62 cs) (hcf : cs[q * 2]? = some (.int .i64 fl)) (hco : cs[q * 2 + 1]? = some v) (hRg : ¬ R g) (hRv : ∀ k, v.ownBlock = some k → R k) (hRn : ∀ k, R k → k < w.heap.size)
    (ho : AOwn w v l) (hr : Rise l) (hl : l.length ≤ 1000) (hfl : ¬ n ≤ fl) (hno : ¬ ((fromOf l n).1 = q ∧ (fromOf l n).2.1 = n)) (hi : SlotIs l n i) (hI : InsC w v i q n (str (prB ra rb rc rd dl)) l') (hfew : l'.length ≤ 64)
    (hdl : dl.length ≤ 140737488351232) (hdc : dl.length ≤ cp) (hdn : rx = none → cp = 0) (hdr : Row w rx dl) :
    Calls Try.prog 15 #[.pointer (some ⟨g, 0, none⟩), .int .i64 q, .int .i64 n, .agg #[.int .i64 ra, .int .i64 rb, .int .i64 rc, .int .i64 rd, .slice rx dl.length cp]] w fun e w' => e = .returned (.int .i64 0) ∧ ∃ W v', PutR R g (q * 2 + 1) w v l' w' W v' := by
  have b1 : Below w.heap.size w (w.alloc (.cells #[.int .i64 ra, .int .i64 rb, .int .i64 rc, .int .i64 rd, .slice rx dl.length cp] 38)) := (Below.refl _ _).alloc (Nat.le_refl _) _
  have A1 := Blk.new' w 38 [.int .i64 ra, .int .i64 rb, .int .i64 rc, .int .i64 rd, .slice rx dl.length cp]
  have b2 : Below (w.alloc (.cells #[.int .i64 ra, .int .i64 rb, .int .i64 rc, .int .i64 rd, .slice rx dl.length cp] 38)).heap.size (w.alloc (.cells #[.int .i64 ra, .int .i64 rb, .int .i64 rc, .int .i64 rd, .slice rx dl.length cp] 38)) ((w.alloc (.cells #[.int .i64 ra, .int .i64 rb, .int .i64 rc, .int .i64 rd, .slice rx dl.length cp] 38)).alloc (.cells #[.int .i64 q, .int .i64 n] 88)) := (Below.refl _ _).alloc (Nat.le_refl _) _
  have P2 := Blk.new' (w.alloc (.cells #[.int .i64 ra, .int .i64 rb, .int .i64 rc, .int .i64 rd, .slice rx dl.length cp] 38)) 88 [.int .i64 q, .int .i64 n]
  rw [show (w.alloc (.cells #[.int .i64 ra, .int .i64 rb, .int .i64 rc, .int .i64 rd, .slice rx dl.length cp] 38)).heap.size = w.heap.size + 1 by simp] at P2
  have A2 := A1.laterB b2
  have bb := below_then b1 b2
  have a0 := blk_at P2 0
  have a1 := blk_at P2 1
  simp only [List.getElem?_cons_zero, List.getElem?_cons_succ] at a0 a1
  have HG : Hid (∀ W, Below w.heap.size w W → MemAt W g q fl v l) := fun W hW => ⟨by rw [blk_at (hG.laterB hW), hcf], by rw [blk_at (hG.laterB hW), hco], ho.later hW, hr, hl⟩
  have HKe : Hid (∀ W, Below w.heap.size w W → Calls Try.prog 44 #[.pointer (some ⟨g, q * 2, none⟩), .agg #[.int .i64 q, .int .i64 n, .string (str (prB ra rb rc rd dl))]] W fun e w' => e = .returned (.tuple #[]) ∧ ∃ W1 v', PutR R g (q * 2 + 1) w v l' w' W1 v') := fun W hW => by
    refine (ddkeep_few R g (q * 2) 62 cs v l l' q n _ i W (hG.laterB hW) hco hRg hRv (fun k e => Nat.lt_of_lt_of_le (hRn k e) hW.size) (ho.later hW) hr hl hi (hI.later hW) hfew).mono ?_
    rintro e w' ⟨rfl, W1, v', h⟩
    exact ⟨rfl, W1, v', h.since hW⟩
  have HN : Hid _ := canBe_any q n ((w.alloc (.cells #[.int .i64 ra, .int .i64 rb, .int .i64 rc, .int .i64 rd, .slice rx dl.length cp] 38)).alloc (.cells #[.int .i64 q, .int .i64 n] 88))
  rw [hcan] at HN
  have HPr : Hid (∀ W, Below w.heap.size w W → Calls Try.prog 43 #[.agg #[.int .i64 ra, .int .i64 rb, .int .i64 rc, .int .i64 rd, .slice rx dl.length cp]] W fun e w' => ∃ z, e = .returned (.tuple #[z, .int .i64 0]) ∧ Own w' W.heap.size z (prB ra rb rc rd dl) ∧ Below W.heap.size W w') := fun W hW => by
    have := putReply_any ra rb rc rd rx cp dl W hdl hdc hdn (hdr.later hW)
    rw [hE] at this
    exact this
  have HCh : Hid (∀ W, Below w.heap.size w W → Calls Try.prog 18 #[.pointer (some ⟨g, 0, none⟩), .int .i64 q, .int .i64 n] W fun e w' => e = .returned (.tuple #[.int .i64 0, .agg #[.int .i64 0, .int .i64 0, .int .i64 0, .int .i64 0, .slice none 0 0]]) ∧ Below W.heap.size W w') := fun W hW => by
    have := check_none g q n fl v l W hq hcan (HG.out W hW) hno
    rw [if_neg hfl] at this
    exact this
  have H2 : Hid _ := And.intro bb (And.intro A2 P2)
  have q1 : (q : Int) < 16 := by omega
  clear hG hcf hco hRg hRv hRn ho hr hl hfl hno hi hI hfew hdl hdc hdn hdr hE hcan b1 A1 b2 P2 A2 bb HG
  go_enter Try.func15, Try.ntmps15
  go_wp2_with fail
  generalize ((w.alloc (.cells #[.int .i64 ra, .int .i64 rb, .int .i64 rc, .int .i64 rd, .slice rx dl.length cp] 38)).alloc (.cells #[.int .i64 q, .int .i64 n] 88)) = w2 at *
  clear a0 a1
  refine (Calls.mono HN.out) ?_
  rintro r w3 ⟨rfl, b3⟩
  have H3 : Hid (Below w.heap.size w w3 ∧ Blk w3 w.heap.size 38 [.int .i64 ra, .int .i64 rb, .int .i64 rc, .int .i64 rd, .slice rx dl.length cp] ∧ Blk w3 (w.heap.size + 1) 88 [.int .i64 q, .int .i64 n]) := ⟨below_then H2.out.1 b3, H2.out.2.1.laterB b3, H2.out.2.2.laterB b3⟩
  have y0 := blk_at H3.out.2.1 0
  have y1 := blk_at H3.out.2.1 1
  have y2 := blk_at H3.out.2.1 2
  have y3 := blk_at H3.out.2.1 3
  have y4 := blk_at H3.out.2.1 4
  simp only [List.getElem?_cons_zero, List.getElem?_cons_succ] at y0 y1 y2 y3 y4
  clear H2 HN b3
  go_wp2_with fail
  clear y0 y1 y2 y3 y4
  refine (Calls.mono (HPr.out _ H3.out.1)) ?_
  rintro r w4 ⟨z, rfl, o4, b4⟩
  obtain ⟨za, zn, zc, rfl, hz⟩ := own12_strs o4
  have H4 : Hid (Below w.heap.size w w4 ∧ Blk w4 (w.heap.size + 1) 88 [.int .i64 q, .int .i64 n]) := ⟨below_then H3.out.1 b4, H3.out.2.2.laterB b4⟩
  have HZ : Hid _ := hz
  clear H3 HPr b4 o4 hz
  go_wp2_with fail
  refine (Calls.mono (HCh.out _ H4.out.1)) ?_
  rintro r w5 ⟨rfl, b5⟩
  have b6 : Below w5.heap.size w5 (w5.alloc (.cells #[.int .i64 0, .int .i64 0, .int .i64 0, .int .i64 0, .slice none 0 0] 38)) := (Below.refl _ _).alloc (Nat.le_refl _) _
  have b46 := below_then b5 b6
  have H6 : Hid (Below w.heap.size w (w5.alloc (.cells #[.int .i64 0, .int .i64 0, .int .i64 0, .int .i64 0, .slice none 0 0] 38)) ∧ Blk (w5.alloc (.cells #[.int .i64 0, .int .i64 0, .int .i64 0, .int .i64 0, .slice none 0 0] 38)) (w.heap.size + 1) 88 [.int .i64 q, .int .i64 n]) := ⟨below_then H4.out.1 b46, H4.out.2.laterB b46⟩
  have hz : ∀ W, Below (w5.alloc (.cells #[.int .i64 0, .int .i64 0, .int .i64 0, .int .i64 0, .slice none 0 0] 38)).heap.size (w5.alloc (.cells #[.int .i64 0, .int .i64 0, .int .i64 0, .int .i64 0, .slice none 0 0] 38)) W → (convert 22 9 (.slice za zn zc)).run Try.prog W = .ok (.string (str (prB ra rb rc rd dl))) W := fun W hW => HZ.out W (below_then b46 hW)
  have p0 : ∀ W, Below (w5.alloc (.cells #[.int .i64 0, .int .i64 0, .int .i64 0, .int .i64 0, .slice none 0 0] 38)).heap.size (w5.alloc (.cells #[.int .i64 0, .int .i64 0, .int .i64 0, .int .i64 0, .slice none 0 0] 38)) W → W.cell? ⟨w.heap.size + 1, 0, none⟩ = some (.int .i64 q) := fun W hW => by rw [blk_at (H6.out.2.laterB hW)]; rfl
  have p1 : ∀ W, Below (w5.alloc (.cells #[.int .i64 0, .int .i64 0, .int .i64 0, .int .i64 0, .slice none 0 0] 38)).heap.size (w5.alloc (.cells #[.int .i64 0, .int .i64 0, .int .i64 0, .int .i64 0, .slice none 0 0] 38)) W → W.cell? ⟨w.heap.size + 1, 1, none⟩ = some (.int .i64 n) := fun W hW => by rw [blk_at (H6.out.2.laterB hW)]; rfl
  have HKeep : Hid (∀ W, Below (w5.alloc (.cells #[.int .i64 0, .int .i64 0, .int .i64 0, .int .i64 0, .slice none 0 0] 38)).heap.size (w5.alloc (.cells #[.int .i64 0, .int .i64 0, .int .i64 0, .int .i64 0, .slice none 0 0] 38)) W → _) := fun W hW => HKe.out W (below_then H6.out.1 hW)
  clear H4 HCh b5 b6 b46 HZ HKe
  go_wp2_with fail
  generalize (w5.alloc (.cells #[.int .i64 0, .int .i64 0, .int .i64 0, .int .i64 0, .slice none 0 0] 38)) = w6 at *
  refine e_begin (S := fun W => Below w6.heap.size w6 W) 9 (by kernel_rfl) ((Below.refl _ _).drew) (fun hS => ?_)
  refine e_take (i := 0) (v := ?_) [2, 3, 4, 9] rfl (by kernel_rfl) (by kernel_rfl) (by kernel_rfl) (by kernel_rfl) (by exact fun _ _ _ h => h) (by rfl) ?_ hS ?_
  rotate_left
  · ((intro w hSw; (try dsimp only at hSw); go_simp) <;> with_reducible rfl)
  (try simp only [Act.put, List.setIfInBounds_toArray, List.set_cons_zero, List.set_cons_succ])
  refine e_take (i := 1) (v := ?_) [4, 9] rfl (by kernel_rfl) (by kernel_rfl) (by kernel_rfl) (by kernel_rfl) (by exact fun _ _ _ h => h) (by rfl) ?_ hS ?_
  rotate_left
  · ((intro w hSw; (try dsimp only at hSw); go_simp) <;> with_reducible rfl)
  (try simp only [Act.put, List.setIfInBounds_toArray, List.set_cons_zero, List.set_cons_succ])
  refine e_take (i := 2) (v := ?_) [3, 4, 9] rfl (by kernel_rfl) (by kernel_rfl) (by kernel_rfl) (by kernel_rfl) (by exact fun _ _ _ h => h) (by rfl) ?_ hS ?_
  rotate_left
  · ((intro w hSw; (try dsimp only at hSw); go_simp) <;> with_reducible rfl)
  (try simp only [Act.put, List.setIfInBounds_toArray, List.set_cons_zero, List.set_cons_succ])
  refine e_take (i := 3) (v := ?_) [4, 9] rfl (by kernel_rfl) (by kernel_rfl) (by kernel_rfl) (by kernel_rfl) (by exact fun _ _ _ h => h) (by rfl) ?_ hS ?_
  rotate_left
  · ((intro w hSw; (try dsimp only at hSw); go_simp) <;> with_reducible rfl)
  (try simp only [Act.put, List.setIfInBounds_toArray, List.set_cons_zero, List.set_cons_succ])
  refine e_take (i := 4) (v := ?_) [9] rfl (by kernel_rfl) (by kernel_rfl) (by kernel_rfl) (by kernel_rfl) (by exact fun _ _ _ h => h) (by rfl) ?_ hS ?_
  rotate_left
  · ((intro w hSw; (try dsimp only at hSw); go_simp) <;> with_reducible rfl)
  (try simp only [Act.put, List.setIfInBounds_toArray, List.set_cons_zero, List.set_cons_succ])
  refine e_take (i := 5) (v := ?_) [8, 9] rfl (by kernel_rfl) (by kernel_rfl) (by kernel_rfl) (by kernel_rfl) (by exact fun _ _ _ h => h) (by rfl) ?_ hS ?_
  rotate_left
  · ((intro w hSw; (try dsimp only at hSw); go_simp) <;> with_reducible rfl)
  (try simp only [Act.put, List.setIfInBounds_toArray, List.set_cons_zero, List.set_cons_succ])
  refine e_take (i := 6) (v := ?_) [7, 8, 9] rfl (by kernel_rfl) (by kernel_rfl) (by kernel_rfl) (by kernel_rfl) (by exact fun _ _ _ h => h) (by rfl) ?_ hS ?_
  rotate_left
  · ((intro w hSw; (try dsimp only at hSw); go_simp) <;> with_reducible rfl)
  (try simp only [Act.put, List.setIfInBounds_toArray, List.set_cons_zero, List.set_cons_succ])
  refine e_take (i := 7) (v := ?_) [8, 9] rfl (by kernel_rfl) (by kernel_rfl) (by kernel_rfl) (by kernel_rfl) (by exact fun _ _ _ h => h) (by rfl) ?_ hS ?_
  rotate_left
  · ((intro w hSw; (try dsimp only at hSw); go_simp) <;> with_reducible rfl)
  (try simp only [Act.put, List.setIfInBounds_toArray, List.set_cons_zero, List.set_cons_succ])
  refine e_take (i := 8) (v := ?_) [9] rfl (by kernel_rfl) (by kernel_rfl) (by kernel_rfl) (by kernel_rfl) (by exact fun _ _ _ h => h) (by rfl) ?_ hS ?_
  rotate_left
  · ((intro w hSw; (try dsimp only at hSw); go_simp) <;> with_reducible rfl)
  (try simp only [Act.put, List.setIfInBounds_toArray, List.set_cons_zero, List.set_cons_succ])
  clear hS
  refine e_last (z := 9) rfl (by kernel_rfl) (fun K hK => ?_)
  go_simp
  refine (Calls.mono (HKeep.out _ (Below.refl _ _).drew)) ?_
  rintro e w7 ⟨rfl, W, v', hP⟩
  have F : Hid _ := hP
  clear hP HKeep
  go_wp2_with fail
  refine hK.out _ _ ?_
  clear hK K
  refine e_done (by kernel_rfl) ?_ _
  clear hz p0 p1
  go_wp2
  go_ret
  exact ⟨rfl, W, v', F.out⟩
end Go.Proofs.Ytkcbbaanlkpeiaa

