/- cdb: Size; what stands behind a command. -/
import Derived.Test.YteingnaojnbchaaDoorCdE
namespace Go.Proofs.YteingnaojnbchaaDoor
open Go.RowKit
set_option linter.unusedVariables false
set_option linter.unusedSimpArgs false
set_option maxRecDepth 4000

def sizC : List Value := [.int .u8 6, .int .u8 10, .int .u8 10, .int .u8 0, .int .u8 16, .int .u8 12]
def SizAt (w : World) : Prop := ∀ j v, sizC[j]? = some v → w.cell? ⟨0, j, none⟩ = some v
theorem SizAt.later {w w' : World} (h : SizAt w) (hb : Below w.heap.size w w') : SizAt w' := fun j v hj => ck_later (h j v hj) hb
def szK (o : Int) : Int := if o < 32 then 6 else if o < 96 then 10 else if o < 160 then 16 else 12
/-- an operation's size -/
def szO (op : Int) : Int := match findR op with
  | none => 0
  | some r => szK r.o
theorem findR_row {op : Int} {r : CR} (h : findR op = some r) : ∃ k, k < 14 ∧ r = rowK k ∧ r.o = op := by
  unfold findR at h
  have h1 := List.mem_of_find?_eq_some h
  have h2 := List.find?_some h
  obtain ⟨k, hk, rfl⟩ := List.mem_iff_getElem.1 h1
  have hk' : k < 14 := by simpa [tbl] using hk
  have e : rowK k = tbl[k] := by unfold rowK; rw [List.getD_eq_getElem?_getD, List.getElem?_eq_getElem hk]; rfl
  exact ⟨k, hk', e.symm, by simpa using h2⟩
theorem layF_at {l : List (BitVec 8)} {a b : Int} {x : BitVec 64} {i : Nat} (h : PlOk a b) (hl : l.length = 16) (hi : b = 0 ∨ i < a.toNat ∨ a.toNat + szB b ≤ i) : bt (layF l a b x) i = bt l i := by
  unfold layF
  split
  · rfl
  · rename_i h0
    have hw := h.wide h0
    have hf := h.fit
    have hb : (be (szB b) x).length = szB b := be_length _ _ (by omega)
    rcases hi with hi | hi
    · exact absurd hi h0
    · exact over_other l _ _ i (by rw [hb, hl]; exact hf) (by rw [hb]; exact hi)
theorem wrF_at {o : Int} {qs : List ((Int × Int) × BitVec 64)} {i : Nat} (h : ∀ q ∈ qs, PlOk q.1.1 q.1.2) (hi : ∀ q ∈ qs, q.1.2 = 0 ∨ i < q.1.1.toNat ∨ q.1.1.toNat + szB q.1.2 ≤ i) (k : Nat) : bt (wrF o qs k) i = bt (opL o) i := by
  unfold wrF
  have h2 : ∀ (l : List ((Int × Int) × BitVec 64)) (x : List (BitVec 8)), (∀ q ∈ l, q ∈ qs) → x.length = 16 → bt (l.foldl (fun l q => layF l q.1.1 q.1.2 q.2) x) i = bt x i := by
    intro l
    induction l with
    | nil => intro x _ hx; rfl
    | cons q r ih =>
      intro x hq hx
      have hm := hq q (List.mem_cons_self ..)
      exact (ih _ (fun y hy => hq y (List.mem_cons_of_mem _ hy)) (layF_len (h q hm) hx)).trans (layF_at (h q hm) hx (hi q hm))
  exact h2 _ _ (fun q hq => List.mem_of_mem_take hq) (by simp [opL])
def freeB (r : CR) (i : Nat) : Bool := r.ps.all (fun p => decide (p.2 = 0 ∨ i < p.1.toNat ∨ p.1.toNat + szB p.2 ≤ i))
theorem free_rows : ∀ k : Fin 14, (0 ≤ (rowK k.val).o ∧ (rowK k.val).o < 256 ∧ 6 ≤ szK (rowK k.val).o ∧ szK (rowK k.val).o ≤ 16) ∧ ∀ i : Fin 16, (i.val = 0 ∨ szK (rowK k.val).o - 1 ≤ (i.val : Int)) → freeB (rowK k.val) i.val = true := by decide +kernel
theorem bt_zero (o : Int) (i : Nat) (h : 0 < i) : bt (opL o) i = 0 := by
  obtain ⟨j, rfl⟩ : ∃ j, i = j + 1 := ⟨i - 1, by omega⟩
  unfold bt opL
  rw [List.getD_cons_succ, List.getD_eq_getElem?_getD, List.getElem?_replicate]
  split <;> rfl
/-- a command's bytes behind it, and its first one -/
theorem bu_free {op : Int} {r : CR} {vs : List (BitVec 64)} (h : findR op = some r) : (6 ≤ szO op ∧ szO op ≤ 16 ∧ 0 ≤ op ∧ op < 256) ∧ bt (wrF r.o (r.ps.zip vs) 6) 0 = op ∧ ∀ i : Nat, i < 16 → szO op - 1 ≤ (i : Int) → bt (wrF r.o (r.ps.zip vs) 6) i = 0 := by
  obtain ⟨k, hk, hr, ho⟩ := findR_row h
  have F := free_rows ⟨k, hk⟩
  have es : szO op = szK r.o := by unfold szO; rw [h]
  have hfree : ∀ i : Nat, i < 16 → (i = 0 ∨ szO op - 1 ≤ (i : Int)) → ∀ q ∈ r.ps.zip vs, q.1.2 = 0 ∨ i < q.1.1.toNat ∨ q.1.1.toNat + szB q.1.2 ≤ i := by
    intro i hi hc q hq
    have h1 := F.2 ⟨i, hi⟩ (by rw [es, hr] at hc; exact hc)
    have h2 := List.all_eq_true.1 h1 q.1 (by show q.1 ∈ (rowK k).ps; rw [← hr]; exact (List.of_mem_zip hq).1)
    exact of_decide_eq_true h2
  have hz : ∀ q ∈ r.ps.zip vs, PlOk q.1.1 q.1.2 := by
    intro q hq
    obtain ⟨o, a0, b0, a1, b1, a2, b2, a3, b3, a4, b4, a5, b5, rfl, ho, p0, p1, p2, p3, p4, p5, -⟩ := (findR_ok h).1.six
    have h1 := (List.of_mem_zip hq).1
    simp only [List.mem_cons, List.not_mem_nil, or_false] at h1
    rcases h1 with h1 | h1 | h1 | h1 | h1 | h1 <;> rw [h1] <;> assumption
  have F1 := F.1
  have eo : (rowK k).o = op := by rw [← hr]; exact ho
  simp only [eo] at F1
  rw [ho] at es
  refine ⟨by omega, ?_, fun i hi hc => ?_⟩
  · rw [wrF_at hz (hfree 0 (by omega) (.inl rfl)) 6]
    show ((c8 r.o).toNat : Int) = op
    rw [ho]
    exact c8_val (by omega)
  · rw [wrF_at hz (hfree i hi (.inr hc)) 6]
    exact bt_zero _ _ (by omega)
set_option maxHeartbeats 4000000 in
theorem cSizeOp_any (op : Int) (w : World) (hT : TblAt w) (hS : SizAt w) :
    Calls Tryd.prog 20 #[.int .i64 op] w fun e w' => e = .returned (.int .i64 (szO op)) ∧ Below w.heap.size w w' := by
  have HF : Hid _ := find_any op w hT
  have HS : Hid _ := hS
  clear hT hS
  go_enter Tryd.func20, Tryd.ntmps20
  go_wp2_with fail
  refine (Calls.mono HF.out) ?_
  rintro e w1 ⟨rfl, b1_⟩
  have H1 : Hid (Below w.heap.size w w1) := b1_
  clear b1_ HF
  cases hfr : findR op with
  | none =>
    have e1 : Hid (szO op = 0) := by show _ = _; unfold szO; rw [hfr]
    have b2_ : Below w1.heap.size w1 (w1.alloc (.cells #[.int .u8 0, .int .u8 0, .int .u8 0, .int .u8 0, .int .u8 0, .int .u8 0, .int .u8 0, .int .u8 0, .int .u8 0, .int .u8 0, .int .u8 0, .int .u8 0, .int .u8 0] 81)) := (Below.refl _ _).alloc (Nat.le_refl _) _
    obtain ⟨w2, hw2⟩ : ∃ w2, w2 = w1.alloc (.cells #[.int .u8 0, .int .u8 0, .int .u8 0, .int .u8 0, .int .u8 0, .int .u8 0, .int .u8 0, .int .u8 0, .int .u8 0, .int .u8 0, .int .u8 0, .int .u8 0, .int .u8 0] 81) := ⟨_, rfl⟩
    rw [← hw2] at b2_
    have H2 : Hid _ := below_then H1.out b2_
    clear b2_ H1 hfr
    rw [show ((none : Option CR).getD ⟨0, [(0, 0), (0, 0), (0, 0), (0, 0), (0, 0), (0, 0)]⟩).cells.toArray = #[.int .u8 0, .int .u8 0, .int .u8 0, .int .u8 0, .int .u8 0, .int .u8 0, .int .u8 0, .int .u8 0, .int .u8 0, .int .u8 0, .int .u8 0, .int .u8 0, .int .u8 0] from rfl, show (none : Option CR).isSome = false from rfl]
    go_upto_region 2 with fail
    rw [← hw2]
    clear hw2
    go_wp2
    go_ret
    exact ⟨by rw [e1.out]; rfl, H2.out⟩
  | some r =>
    obtain ⟨k, hk, hrk, hro⟩ := findR_row hfr
    have e1 : Hid (szO op = szK (rowK k).o) := by show _ = _; unfold szO; rw [hfr, hrk]
    subst hrk
    clear hfr hro
    have hk' : k = 0 ∨ k = 1 ∨ k = 2 ∨ k = 3 ∨ k = 4 ∨ k = 5 ∨ k = 6 ∨ k = 7 ∨ k = 8 ∨ k = 9 ∨ k = 10 ∨ k = 11 ∨ k = 12 ∨ k = 13 := by omega
    clear hk
    rcases hk' with rfl | rfl | rfl | rfl | rfl | rfl | rfl | rfl | rfl | rfl | rfl | rfl | rfl | rfl
    · have B2 := Blk.new' w1 81 [.int .u8 0, .int .u8 0, .int .u8 0, .int .u8 0, .int .u8 0, .int .u8 0, .int .u8 0, .int .u8 0, .int .u8 0, .int .u8 0, .int .u8 0, .int .u8 0, .int .u8 0]
      have b2_ : Below w1.heap.size w1 (w1.alloc (.cells #[.int .u8 0, .int .u8 0, .int .u8 0, .int .u8 0, .int .u8 0, .int .u8 0, .int .u8 0, .int .u8 0, .int .u8 0, .int .u8 0, .int .u8 0, .int .u8 0, .int .u8 0] 81)) := (Below.refl _ _).alloc (Nat.le_refl _) _
      obtain ⟨w2, hw2⟩ : ∃ w2, w2 = w1.alloc (.cells #[.int .u8 0, .int .u8 0, .int .u8 0, .int .u8 0, .int .u8 0, .int .u8 0, .int .u8 0, .int .u8 0, .int .u8 0, .int .u8 0, .int .u8 0, .int .u8 0, .int .u8 0] 81) := ⟨_, rfl⟩
      rw [← hw2] at B2 b2_
      have H2 : Hid _ := below_then H1.out b2_
      have y0 := ck_at B2 0
      simp only [List.getElem?_cons_zero] at y0
      have sc := (SizAt.later HS.out H2.out) 0 (.int .u8 6) rfl
      clear b2_ H1 B2
      rw [show ((some (rowK 0)).getD ⟨0, [(0, 0), (0, 0), (0, 0), (0, 0), (0, 0), (0, 0)]⟩).cells.toArray = #[.int .u8 0, .int .u8 0, .int .u8 0, .int .u8 0, .int .u8 0, .int .u8 0, .int .u8 0, .int .u8 0, .int .u8 0, .int .u8 0, .int .u8 0, .int .u8 0, .int .u8 0] from rfl, show (some (rowK 0)).isSome = true from rfl]
      go_upto_region 2 with fail
      rw [← hw2]
      clear hw2
      go_wp2
      go_ret
      exact ⟨by rw [e1.out]; rfl, H2.out⟩
    · have B2 := Blk.new' w1 81 [.int .u8 3, .int .u8 0, .int .u8 0, .int .u8 0, .int .u8 0, .int .u8 0, .int .u8 0, .int .u8 0, .int .u8 0, .int .u8 0, .int .u8 0, .int .u8 4, .int .u8 8]
      have b2_ : Below w1.heap.size w1 (w1.alloc (.cells #[.int .u8 3, .int .u8 0, .int .u8 0, .int .u8 0, .int .u8 0, .int .u8 0, .int .u8 0, .int .u8 0, .int .u8 0, .int .u8 0, .int .u8 0, .int .u8 4, .int .u8 8] 81)) := (Below.refl _ _).alloc (Nat.le_refl _) _
      obtain ⟨w2, hw2⟩ : ∃ w2, w2 = w1.alloc (.cells #[.int .u8 3, .int .u8 0, .int .u8 0, .int .u8 0, .int .u8 0, .int .u8 0, .int .u8 0, .int .u8 0, .int .u8 0, .int .u8 0, .int .u8 0, .int .u8 4, .int .u8 8] 81) := ⟨_, rfl⟩
      rw [← hw2] at B2 b2_
      have H2 : Hid _ := below_then H1.out b2_
      have y0 := ck_at B2 0
      simp only [List.getElem?_cons_zero] at y0
      have sc := (SizAt.later HS.out H2.out) 0 (.int .u8 6) rfl
      clear b2_ H1 B2
      rw [show ((some (rowK 1)).getD ⟨0, [(0, 0), (0, 0), (0, 0), (0, 0), (0, 0), (0, 0)]⟩).cells.toArray = #[.int .u8 3, .int .u8 0, .int .u8 0, .int .u8 0, .int .u8 0, .int .u8 0, .int .u8 0, .int .u8 0, .int .u8 0, .int .u8 0, .int .u8 0, .int .u8 4, .int .u8 8] from rfl, show (some (rowK 1)).isSome = true from rfl]
      go_upto_region 2 with fail
      rw [← hw2]
      clear hw2
      go_wp2
      go_ret
      exact ⟨by rw [e1.out]; rfl, H2.out⟩
    · have B2 := Blk.new' w1 81 [.int .u8 18, .int .u8 0, .int .u8 0, .int .u8 2, .int .u8 8, .int .u8 1, .int .u8 1, .int .u8 0, .int .u8 0, .int .u8 0, .int .u8 0, .int .u8 3, .int .u8 16]
      have b2_ : Below w1.heap.size w1 (w1.alloc (.cells #[.int .u8 18, .int .u8 0, .int .u8 0, .int .u8 2, .int .u8 8, .int .u8 1, .int .u8 1, .int .u8 0, .int .u8 0, .int .u8 0, .int .u8 0, .int .u8 3, .int .u8 16] 81)) := (Below.refl _ _).alloc (Nat.le_refl _) _
      obtain ⟨w2, hw2⟩ : ∃ w2, w2 = w1.alloc (.cells #[.int .u8 18, .int .u8 0, .int .u8 0, .int .u8 2, .int .u8 8, .int .u8 1, .int .u8 1, .int .u8 0, .int .u8 0, .int .u8 0, .int .u8 0, .int .u8 3, .int .u8 16] 81) := ⟨_, rfl⟩
      rw [← hw2] at B2 b2_
      have H2 : Hid _ := below_then H1.out b2_
      have y0 := ck_at B2 0
      simp only [List.getElem?_cons_zero] at y0
      have sc := (SizAt.later HS.out H2.out) 0 (.int .u8 6) rfl
      clear b2_ H1 B2
      rw [show ((some (rowK 2)).getD ⟨0, [(0, 0), (0, 0), (0, 0), (0, 0), (0, 0), (0, 0)]⟩).cells.toArray = #[.int .u8 18, .int .u8 0, .int .u8 0, .int .u8 2, .int .u8 8, .int .u8 1, .int .u8 1, .int .u8 0, .int .u8 0, .int .u8 0, .int .u8 0, .int .u8 3, .int .u8 16] from rfl, show (some (rowK 2)).isSome = true from rfl]
      go_upto_region 2 with fail
      rw [← hw2]
      clear hw2
      go_wp2
      go_ret
      exact ⟨by rw [e1.out]; rfl, H2.out⟩
    · have B2 := Blk.new' w1 81 [.int .u8 37, .int .u8 0, .int .u8 0, .int .u8 0, .int .u8 0, .int .u8 0, .int .u8 0, .int .u8 0, .int .u8 0, .int .u8 0, .int .u8 0, .int .u8 0, .int .u8 0]
      have b2_ : Below w1.heap.size w1 (w1.alloc (.cells #[.int .u8 37, .int .u8 0, .int .u8 0, .int .u8 0, .int .u8 0, .int .u8 0, .int .u8 0, .int .u8 0, .int .u8 0, .int .u8 0, .int .u8 0, .int .u8 0, .int .u8 0] 81)) := (Below.refl _ _).alloc (Nat.le_refl _) _
      obtain ⟨w2, hw2⟩ : ∃ w2, w2 = w1.alloc (.cells #[.int .u8 37, .int .u8 0, .int .u8 0, .int .u8 0, .int .u8 0, .int .u8 0, .int .u8 0, .int .u8 0, .int .u8 0, .int .u8 0, .int .u8 0, .int .u8 0, .int .u8 0] 81) := ⟨_, rfl⟩
      rw [← hw2] at B2 b2_
      have H2 : Hid _ := below_then H1.out b2_
      have y0 := ck_at B2 0
      simp only [List.getElem?_cons_zero] at y0
      have sc := (SizAt.later HS.out H2.out) 1 (.int .u8 10) rfl
      clear b2_ H1 B2
      rw [show ((some (rowK 3)).getD ⟨0, [(0, 0), (0, 0), (0, 0), (0, 0), (0, 0), (0, 0)]⟩).cells.toArray = #[.int .u8 37, .int .u8 0, .int .u8 0, .int .u8 0, .int .u8 0, .int .u8 0, .int .u8 0, .int .u8 0, .int .u8 0, .int .u8 0, .int .u8 0, .int .u8 0, .int .u8 0] from rfl, show (some (rowK 3)).isSome = true from rfl]
      go_upto_region 2 with fail
      rw [← hw2]
      clear hw2
      go_wp2
      go_ret
      exact ⟨by rw [e1.out]; rfl, H2.out⟩
    · have B2 := Blk.new' w1 81 [.int .u8 40, .int .u8 0, .int .u8 0, .int .u8 0, .int .u8 0, .int .u8 0, .int .u8 0, .int .u8 0, .int .u8 0, .int .u8 2, .int .u8 32, .int .u8 7, .int .u8 16]
      have b2_ : Below w1.heap.size w1 (w1.alloc (.cells #[.int .u8 40, .int .u8 0, .int .u8 0, .int .u8 0, .int .u8 0, .int .u8 0, .int .u8 0, .int .u8 0, .int .u8 0, .int .u8 2, .int .u8 32, .int .u8 7, .int .u8 16] 81)) := (Below.refl _ _).alloc (Nat.le_refl _) _
      obtain ⟨w2, hw2⟩ : ∃ w2, w2 = w1.alloc (.cells #[.int .u8 40, .int .u8 0, .int .u8 0, .int .u8 0, .int .u8 0, .int .u8 0, .int .u8 0, .int .u8 0, .int .u8 0, .int .u8 2, .int .u8 32, .int .u8 7, .int .u8 16] 81) := ⟨_, rfl⟩
      rw [← hw2] at B2 b2_
      have H2 : Hid _ := below_then H1.out b2_
      have y0 := ck_at B2 0
      simp only [List.getElem?_cons_zero] at y0
      have sc := (SizAt.later HS.out H2.out) 1 (.int .u8 10) rfl
      clear b2_ H1 B2
      rw [show ((some (rowK 4)).getD ⟨0, [(0, 0), (0, 0), (0, 0), (0, 0), (0, 0), (0, 0)]⟩).cells.toArray = #[.int .u8 40, .int .u8 0, .int .u8 0, .int .u8 0, .int .u8 0, .int .u8 0, .int .u8 0, .int .u8 0, .int .u8 0, .int .u8 2, .int .u8 32, .int .u8 7, .int .u8 16] from rfl, show (some (rowK 4)).isSome = true from rfl]
      go_upto_region 2 with fail
      rw [← hw2]
      clear hw2
      go_wp2
      go_ret
      exact ⟨by rw [e1.out]; rfl, H2.out⟩
    · have B2 := Blk.new' w1 81 [.int .u8 42, .int .u8 0, .int .u8 0, .int .u8 0, .int .u8 0, .int .u8 0, .int .u8 0, .int .u8 0, .int .u8 0, .int .u8 2, .int .u8 32, .int .u8 7, .int .u8 16]
      have b2_ : Below w1.heap.size w1 (w1.alloc (.cells #[.int .u8 42, .int .u8 0, .int .u8 0, .int .u8 0, .int .u8 0, .int .u8 0, .int .u8 0, .int .u8 0, .int .u8 0, .int .u8 2, .int .u8 32, .int .u8 7, .int .u8 16] 81)) := (Below.refl _ _).alloc (Nat.le_refl _) _
      obtain ⟨w2, hw2⟩ : ∃ w2, w2 = w1.alloc (.cells #[.int .u8 42, .int .u8 0, .int .u8 0, .int .u8 0, .int .u8 0, .int .u8 0, .int .u8 0, .int .u8 0, .int .u8 0, .int .u8 2, .int .u8 32, .int .u8 7, .int .u8 16] 81) := ⟨_, rfl⟩
      rw [← hw2] at B2 b2_
      have H2 : Hid _ := below_then H1.out b2_
      have y0 := ck_at B2 0
      simp only [List.getElem?_cons_zero] at y0
      have sc := (SizAt.later HS.out H2.out) 1 (.int .u8 10) rfl
      clear b2_ H1 B2
      rw [show ((some (rowK 5)).getD ⟨0, [(0, 0), (0, 0), (0, 0), (0, 0), (0, 0), (0, 0)]⟩).cells.toArray = #[.int .u8 42, .int .u8 0, .int .u8 0, .int .u8 0, .int .u8 0, .int .u8 0, .int .u8 0, .int .u8 0, .int .u8 0, .int .u8 2, .int .u8 32, .int .u8 7, .int .u8 16] from rfl, show (some (rowK 5)).isSome = true from rfl]
      go_upto_region 2 with fail
      rw [← hw2]
      clear hw2
      go_wp2
      go_ret
      exact ⟨by rw [e1.out]; rfl, H2.out⟩
    · have B2 := Blk.new' w1 81 [.int .u8 53, .int .u8 0, .int .u8 0, .int .u8 0, .int .u8 0, .int .u8 0, .int .u8 0, .int .u8 0, .int .u8 0, .int .u8 2, .int .u8 32, .int .u8 7, .int .u8 16]
      have b2_ : Below w1.heap.size w1 (w1.alloc (.cells #[.int .u8 53, .int .u8 0, .int .u8 0, .int .u8 0, .int .u8 0, .int .u8 0, .int .u8 0, .int .u8 0, .int .u8 0, .int .u8 2, .int .u8 32, .int .u8 7, .int .u8 16] 81)) := (Below.refl _ _).alloc (Nat.le_refl _) _
      obtain ⟨w2, hw2⟩ : ∃ w2, w2 = w1.alloc (.cells #[.int .u8 53, .int .u8 0, .int .u8 0, .int .u8 0, .int .u8 0, .int .u8 0, .int .u8 0, .int .u8 0, .int .u8 0, .int .u8 2, .int .u8 32, .int .u8 7, .int .u8 16] 81) := ⟨_, rfl⟩
      rw [← hw2] at B2 b2_
      have H2 : Hid _ := below_then H1.out b2_
      have y0 := ck_at B2 0
      simp only [List.getElem?_cons_zero] at y0
      have sc := (SizAt.later HS.out H2.out) 1 (.int .u8 10) rfl
      clear b2_ H1 B2
      rw [show ((some (rowK 6)).getD ⟨0, [(0, 0), (0, 0), (0, 0), (0, 0), (0, 0), (0, 0)]⟩).cells.toArray = #[.int .u8 53, .int .u8 0, .int .u8 0, .int .u8 0, .int .u8 0, .int .u8 0, .int .u8 0, .int .u8 0, .int .u8 0, .int .u8 2, .int .u8 32, .int .u8 7, .int .u8 16] from rfl, show (some (rowK 6)).isSome = true from rfl]
      go_upto_region 2 with fail
      rw [← hw2]
      clear hw2
      go_wp2
      go_ret
      exact ⟨by rw [e1.out]; rfl, H2.out⟩
    · have B2 := Blk.new' w1 81 [.int .u8 66, .int .u8 0, .int .u8 0, .int .u8 0, .int .u8 0, .int .u8 0, .int .u8 0, .int .u8 0, .int .u8 0, .int .u8 0, .int .u8 0, .int .u8 7, .int .u8 16]
      have b2_ : Below w1.heap.size w1 (w1.alloc (.cells #[.int .u8 66, .int .u8 0, .int .u8 0, .int .u8 0, .int .u8 0, .int .u8 0, .int .u8 0, .int .u8 0, .int .u8 0, .int .u8 0, .int .u8 0, .int .u8 7, .int .u8 16] 81)) := (Below.refl _ _).alloc (Nat.le_refl _) _
      obtain ⟨w2, hw2⟩ : ∃ w2, w2 = w1.alloc (.cells #[.int .u8 66, .int .u8 0, .int .u8 0, .int .u8 0, .int .u8 0, .int .u8 0, .int .u8 0, .int .u8 0, .int .u8 0, .int .u8 0, .int .u8 0, .int .u8 7, .int .u8 16] 81) := ⟨_, rfl⟩
      rw [← hw2] at B2 b2_
      have H2 : Hid _ := below_then H1.out b2_
      have y0 := ck_at B2 0
      simp only [List.getElem?_cons_zero] at y0
      have sc := (SizAt.later HS.out H2.out) 2 (.int .u8 10) rfl
      clear b2_ H1 B2
      rw [show ((some (rowK 7)).getD ⟨0, [(0, 0), (0, 0), (0, 0), (0, 0), (0, 0), (0, 0)]⟩).cells.toArray = #[.int .u8 66, .int .u8 0, .int .u8 0, .int .u8 0, .int .u8 0, .int .u8 0, .int .u8 0, .int .u8 0, .int .u8 0, .int .u8 0, .int .u8 0, .int .u8 7, .int .u8 16] from rfl, show (some (rowK 7)).isSome = true from rfl]
      go_upto_region 2 with fail
      rw [← hw2]
      clear hw2
      go_wp2
      go_ret
      exact ⟨by rw [e1.out]; rfl, H2.out⟩
    · have B2 := Blk.new' w1 81 [.int .u8 94, .int .u8 1, .int .u8 5, .int .u8 0, .int .u8 0, .int .u8 0, .int .u8 0, .int .u8 0, .int .u8 0, .int .u8 0, .int .u8 0, .int .u8 7, .int .u8 16]
      have b2_ : Below w1.heap.size w1 (w1.alloc (.cells #[.int .u8 94, .int .u8 1, .int .u8 5, .int .u8 0, .int .u8 0, .int .u8 0, .int .u8 0, .int .u8 0, .int .u8 0, .int .u8 0, .int .u8 0, .int .u8 7, .int .u8 16] 81)) := (Below.refl _ _).alloc (Nat.le_refl _) _
      obtain ⟨w2, hw2⟩ : ∃ w2, w2 = w1.alloc (.cells #[.int .u8 94, .int .u8 1, .int .u8 5, .int .u8 0, .int .u8 0, .int .u8 0, .int .u8 0, .int .u8 0, .int .u8 0, .int .u8 0, .int .u8 0, .int .u8 7, .int .u8 16] 81) := ⟨_, rfl⟩
      rw [← hw2] at B2 b2_
      have H2 : Hid _ := below_then H1.out b2_
      have y0 := ck_at B2 0
      simp only [List.getElem?_cons_zero] at y0
      have sc := (SizAt.later HS.out H2.out) 2 (.int .u8 10) rfl
      clear b2_ H1 B2
      rw [show ((some (rowK 8)).getD ⟨0, [(0, 0), (0, 0), (0, 0), (0, 0), (0, 0), (0, 0)]⟩).cells.toArray = #[.int .u8 94, .int .u8 1, .int .u8 5, .int .u8 0, .int .u8 0, .int .u8 0, .int .u8 0, .int .u8 0, .int .u8 0, .int .u8 0, .int .u8 0, .int .u8 7, .int .u8 16] from rfl, show (some (rowK 8)).isSome = true from rfl]
      go_upto_region 2 with fail
      rw [← hw2]
      clear hw2
      go_wp2
      go_ret
      exact ⟨by rw [e1.out]; rfl, H2.out⟩
    · have B2 := Blk.new' w1 81 [.int .u8 95, .int .u8 1, .int .u8 5, .int .u8 0, .int .u8 0, .int .u8 0, .int .u8 0, .int .u8 2, .int .u8 4, .int .u8 0, .int .u8 0, .int .u8 5, .int .u8 32]
      have b2_ : Below w1.heap.size w1 (w1.alloc (.cells #[.int .u8 95, .int .u8 1, .int .u8 5, .int .u8 0, .int .u8 0, .int .u8 0, .int .u8 0, .int .u8 2, .int .u8 4, .int .u8 0, .int .u8 0, .int .u8 5, .int .u8 32] 81)) := (Below.refl _ _).alloc (Nat.le_refl _) _
      obtain ⟨w2, hw2⟩ : ∃ w2, w2 = w1.alloc (.cells #[.int .u8 95, .int .u8 1, .int .u8 5, .int .u8 0, .int .u8 0, .int .u8 0, .int .u8 0, .int .u8 2, .int .u8 4, .int .u8 0, .int .u8 0, .int .u8 5, .int .u8 32] 81) := ⟨_, rfl⟩
      rw [← hw2] at B2 b2_
      have H2 : Hid _ := below_then H1.out b2_
      have y0 := ck_at B2 0
      simp only [List.getElem?_cons_zero] at y0
      have sc := (SizAt.later HS.out H2.out) 2 (.int .u8 10) rfl
      clear b2_ H1 B2
      rw [show ((some (rowK 9)).getD ⟨0, [(0, 0), (0, 0), (0, 0), (0, 0), (0, 0), (0, 0)]⟩).cells.toArray = #[.int .u8 95, .int .u8 1, .int .u8 5, .int .u8 0, .int .u8 0, .int .u8 0, .int .u8 0, .int .u8 2, .int .u8 4, .int .u8 0, .int .u8 0, .int .u8 5, .int .u8 32] from rfl, show (some (rowK 9)).isSome = true from rfl]
      go_upto_region 2 with fail
      rw [← hw2]
      clear hw2
      go_wp2
      go_ret
      exact ⟨by rw [e1.out]; rfl, H2.out⟩
    · have B2 := Blk.new' w1 81 [.int .u8 136, .int .u8 0, .int .u8 0, .int .u8 0, .int .u8 0, .int .u8 0, .int .u8 0, .int .u8 0, .int .u8 0, .int .u8 2, .int .u8 64, .int .u8 10, .int .u8 32]
      have b2_ : Below w1.heap.size w1 (w1.alloc (.cells #[.int .u8 136, .int .u8 0, .int .u8 0, .int .u8 0, .int .u8 0, .int .u8 0, .int .u8 0, .int .u8 0, .int .u8 0, .int .u8 2, .int .u8 64, .int .u8 10, .int .u8 32] 81)) := (Below.refl _ _).alloc (Nat.le_refl _) _
      obtain ⟨w2, hw2⟩ : ∃ w2, w2 = w1.alloc (.cells #[.int .u8 136, .int .u8 0, .int .u8 0, .int .u8 0, .int .u8 0, .int .u8 0, .int .u8 0, .int .u8 0, .int .u8 0, .int .u8 2, .int .u8 64, .int .u8 10, .int .u8 32] 81) := ⟨_, rfl⟩
      rw [← hw2] at B2 b2_
      have H2 : Hid _ := below_then H1.out b2_
      have y0 := ck_at B2 0
      simp only [List.getElem?_cons_zero] at y0
      have sc := (SizAt.later HS.out H2.out) 4 (.int .u8 16) rfl
      clear b2_ H1 B2
      rw [show ((some (rowK 10)).getD ⟨0, [(0, 0), (0, 0), (0, 0), (0, 0), (0, 0), (0, 0)]⟩).cells.toArray = #[.int .u8 136, .int .u8 0, .int .u8 0, .int .u8 0, .int .u8 0, .int .u8 0, .int .u8 0, .int .u8 0, .int .u8 0, .int .u8 2, .int .u8 64, .int .u8 10, .int .u8 32] from rfl, show (some (rowK 10)).isSome = true from rfl]
      go_upto_region 2 with fail
      rw [← hw2]
      clear hw2
      go_wp2
      go_ret
      exact ⟨by rw [e1.out]; rfl, H2.out⟩
    · have B2 := Blk.new' w1 81 [.int .u8 138, .int .u8 0, .int .u8 0, .int .u8 0, .int .u8 0, .int .u8 0, .int .u8 0, .int .u8 0, .int .u8 0, .int .u8 2, .int .u8 64, .int .u8 10, .int .u8 32]
      have b2_ : Below w1.heap.size w1 (w1.alloc (.cells #[.int .u8 138, .int .u8 0, .int .u8 0, .int .u8 0, .int .u8 0, .int .u8 0, .int .u8 0, .int .u8 0, .int .u8 0, .int .u8 2, .int .u8 64, .int .u8 10, .int .u8 32] 81)) := (Below.refl _ _).alloc (Nat.le_refl _) _
      obtain ⟨w2, hw2⟩ : ∃ w2, w2 = w1.alloc (.cells #[.int .u8 138, .int .u8 0, .int .u8 0, .int .u8 0, .int .u8 0, .int .u8 0, .int .u8 0, .int .u8 0, .int .u8 0, .int .u8 2, .int .u8 64, .int .u8 10, .int .u8 32] 81) := ⟨_, rfl⟩
      rw [← hw2] at B2 b2_
      have H2 : Hid _ := below_then H1.out b2_
      have y0 := ck_at B2 0
      simp only [List.getElem?_cons_zero] at y0
      have sc := (SizAt.later HS.out H2.out) 4 (.int .u8 16) rfl
      clear b2_ H1 B2
      rw [show ((some (rowK 11)).getD ⟨0, [(0, 0), (0, 0), (0, 0), (0, 0), (0, 0), (0, 0)]⟩).cells.toArray = #[.int .u8 138, .int .u8 0, .int .u8 0, .int .u8 0, .int .u8 0, .int .u8 0, .int .u8 0, .int .u8 0, .int .u8 0, .int .u8 2, .int .u8 64, .int .u8 10, .int .u8 32] from rfl, show (some (rowK 11)).isSome = true from rfl]
      go_upto_region 2 with fail
      rw [← hw2]
      clear hw2
      go_wp2
      go_ret
      exact ⟨by rw [e1.out]; rfl, H2.out⟩
    · have B2 := Blk.new' w1 81 [.int .u8 160, .int .u8 0, .int .u8 0, .int .u8 2, .int .u8 8, .int .u8 0, .int .u8 0, .int .u8 0, .int .u8 0, .int .u8 0, .int .u8 0, .int .u8 6, .int .u8 32]
      have b2_ : Below w1.heap.size w1 (w1.alloc (.cells #[.int .u8 160, .int .u8 0, .int .u8 0, .int .u8 2, .int .u8 8, .int .u8 0, .int .u8 0, .int .u8 0, .int .u8 0, .int .u8 0, .int .u8 0, .int .u8 6, .int .u8 32] 81)) := (Below.refl _ _).alloc (Nat.le_refl _) _
      obtain ⟨w2, hw2⟩ : ∃ w2, w2 = w1.alloc (.cells #[.int .u8 160, .int .u8 0, .int .u8 0, .int .u8 2, .int .u8 8, .int .u8 0, .int .u8 0, .int .u8 0, .int .u8 0, .int .u8 0, .int .u8 0, .int .u8 6, .int .u8 32] 81) := ⟨_, rfl⟩
      rw [← hw2] at B2 b2_
      have H2 : Hid _ := below_then H1.out b2_
      have y0 := ck_at B2 0
      simp only [List.getElem?_cons_zero] at y0
      have sc := (SizAt.later HS.out H2.out) 5 (.int .u8 12) rfl
      clear b2_ H1 B2
      rw [show ((some (rowK 12)).getD ⟨0, [(0, 0), (0, 0), (0, 0), (0, 0), (0, 0), (0, 0)]⟩).cells.toArray = #[.int .u8 160, .int .u8 0, .int .u8 0, .int .u8 2, .int .u8 8, .int .u8 0, .int .u8 0, .int .u8 0, .int .u8 0, .int .u8 0, .int .u8 0, .int .u8 6, .int .u8 32] from rfl, show (some (rowK 12)).isSome = true from rfl]
      go_upto_region 2 with fail
      rw [← hw2]
      clear hw2
      go_wp2
      go_ret
      exact ⟨by rw [e1.out]; rfl, H2.out⟩
    · have B2 := Blk.new' w1 81 [.int .u8 163, .int .u8 1, .int .u8 5, .int .u8 0, .int .u8 0, .int .u8 0, .int .u8 0, .int .u8 0, .int .u8 0, .int .u8 0, .int .u8 0, .int .u8 6, .int .u8 32]
      have b2_ : Below w1.heap.size w1 (w1.alloc (.cells #[.int .u8 163, .int .u8 1, .int .u8 5, .int .u8 0, .int .u8 0, .int .u8 0, .int .u8 0, .int .u8 0, .int .u8 0, .int .u8 0, .int .u8 0, .int .u8 6, .int .u8 32] 81)) := (Below.refl _ _).alloc (Nat.le_refl _) _
      obtain ⟨w2, hw2⟩ : ∃ w2, w2 = w1.alloc (.cells #[.int .u8 163, .int .u8 1, .int .u8 5, .int .u8 0, .int .u8 0, .int .u8 0, .int .u8 0, .int .u8 0, .int .u8 0, .int .u8 0, .int .u8 0, .int .u8 6, .int .u8 32] 81) := ⟨_, rfl⟩
      rw [← hw2] at B2 b2_
      have H2 : Hid _ := below_then H1.out b2_
      have y0 := ck_at B2 0
      simp only [List.getElem?_cons_zero] at y0
      have sc := (SizAt.later HS.out H2.out) 5 (.int .u8 12) rfl
      clear b2_ H1 B2
      rw [show ((some (rowK 13)).getD ⟨0, [(0, 0), (0, 0), (0, 0), (0, 0), (0, 0), (0, 0)]⟩).cells.toArray = #[.int .u8 163, .int .u8 1, .int .u8 5, .int .u8 0, .int .u8 0, .int .u8 0, .int .u8 0, .int .u8 0, .int .u8 0, .int .u8 0, .int .u8 0, .int .u8 6, .int .u8 32] from rfl, show (some (rowK 13)).isSome = true from rfl]
      go_upto_region 2 with fail
      rw [← hw2]
      clear hw2
      go_wp2
      go_ret
      exact ⟨by rw [e1.out]; rfl, H2.out⟩
end Go.Proofs.YteingnaojnbchaaDoor
