/- A block that is written word by word. -/
import Derived.Test.YtmkacgdbmojomaaXEx4
import Derived.Test.YtmkacgdbmojomaaXFieldX1
import Derived.Test.YtmkacgdbmojomaaXFieldK
namespace Go.Proofs.Ytmkacgdbmojomaa
open Go.RowKit Go.MapKept Go.ChangeMaps
set_option linter.unusedVariables false
set_option maxRecDepth 4000

theorem num_low (l : List (BitVec 8)) (h : l.length ≤ 7) : ∀ i, 56 ≤ i → (num l).getLsbD i = false := by
  suffices H : ∀ k l, List.length l = k → k ≤ 7 → ∀ i, 8 * k ≤ i → (num l).getLsbD i = false from fun i hi => H l.length l rfl h i (by omega)
  intro k
  induction k with
  | zero => intro l hl _ i _; rw [List.eq_nil_of_length_eq_zero hl]; simp [num]
  | succ k ih =>
    intro l hl hk i hi
    obtain ⟨l', c, rfl⟩ : ∃ l' c, l = l' ++ [c] := ⟨l.dropLast, l.getLast (by intro e; simp [e] at hl), (List.dropLast_concat_getLast _).symm⟩
    have hl' : l'.length = k := by simpa using hl
    rw [num_snoc, BitVec.getLsbD_or, BitVec.getLsbD_shiftLeft, ih l' hl' (by omega) (i - 8) (by omega), BitVec.getLsbD_setWidth, BitVec.getLsbD_of_ge c i (by omega)]
    simp
theorem be_num : ∀ (k : Nat) (l : List (BitVec 8)), l.length = k → k ≤ 8 → be k (num l) = l
  | 0, l, hl, _ => by rw [List.eq_nil_of_length_eq_zero hl]; rfl
  | k + 1, l, hl, hk => by
    obtain ⟨l', c, rfl⟩ : ∃ l' c, l = l' ++ [c] := ⟨l.dropLast, l.getLast (by intro e; simp [e] at hl), (List.dropLast_concat_getLast _).symm⟩
    have hl' : l'.length = k := by simpa using hl
    have e1 : num (l' ++ [c]) >>> 8 = num l' := by
      apply BitVec.eq_of_getLsbD_eq
      intro i hi
      rw [num_snoc, BitVec.getLsbD_ushiftRight, BitVec.getLsbD_or, BitVec.getLsbD_shiftLeft, BitVec.getLsbD_setWidth, BitVec.getLsbD_of_ge c (8 + i) (by omega)]
      by_cases h56 : i < 56
      · simp [show 8 + i < 64 by omega, show 8 + i - 8 = i by omega]
      · rw [num_low l' (by omega) i (by omega)]
        simp [show 8 + i - 8 = i by omega, num_low l' (by omega) i (by omega)]
    have e2 : (num (l' ++ [c])).setWidth 8 = c := by
      apply BitVec.eq_of_getLsbD_eq
      intro i hi
      rw [num_snoc, BitVec.getLsbD_setWidth, BitVec.getLsbD_or, BitVec.getLsbD_shiftLeft, BitVec.getLsbD_setWidth]
      simp [hi, show i < 64 by omega]
    rw [be_snoc k _ hk, e1, e2, be_num k l' hl' (by omega)]
theorem turned_more {g : Nat} {v0 v1 : Value} {w wr w' : World} (hN : Newer w v0 v1) (h1 : Turned (Mine g v0) w wr) (h2 : Turned (Mine g v1) wr w') : Turned (Mine g v0) w w' :=
  h1.trans (h2.mono (fun k hk => by
    rcases hk with hk | hk
    · exact .inl (.inl hk)
    · rcases hN k hk with e | e
      · exact .inl (.inr e)
      · exact .inr e))
theorem ofInt_wrap (x : BitVec 64) : BitVec.ofInt 64 (wrap64 (x.toNat : Int)) = x := by
  apply BitVec.eq_of_toNat_eq
  rw [BitVec.toNat_ofInt]
  have := x.isLt
  unfold wrap64
  omega
theorem blk_row {w : World} {g : Nat} {t : TypeId} {l : List (BitVec 8)} (h : Blk w g t (vals l)) : Row w (some ⟨g, 0, none⟩) l := by
  refine .inr ⟨g, 0, rfl, fun i hi => ?_⟩
  rw [Nat.zero_add, cell_of_row _ _ _ _ _ _ h]
  simpa using vals_at l i hi
theorem wr8 (L : List (BitVec 8)) (n : Int) : wrNum L 0 8 n = (L ++ be 8 (BitVec.ofInt 64 n), 0) := by
  unfold wrNum wnE
  simp [widthB]

set_option maxHeartbeats 2000000 in
theorem bwrite_any (l : List (BitVec 8)) (hl : l.length = 64) (base g : Nat) (v : Value) (L : List (BitVec 8)) (w : World) (hW : WrAt w base g 104 v L 0) (hL : L.length ≤ 100000000) :
    Calls Try.prog 34 #[arrV l, .pointer (some ⟨g, 0, none⟩)] w fun e w' => e = .returned (.tuple #[]) ∧ ∃ v', WrAt w' base g 104 v' (L ++ l) 0 ∧ Newer w v v' ∧ Turned (Mine g v) w w' := by
  have R1 : Blk (w.alloc (.cells (vals l).toArray 77)) w.heap.size 77 (vals l) := Blk.new' w _ _
  have b1 : Below w.heap.size w (w.alloc (.cells (vals l).toArray 77)) := (Below.refl _ _).alloc (Nat.le_refl _) _
  have t1 : Turned (Mine g v) w (w.alloc (.cells (vals l).toArray 77)) := (turned_below b1).mono (fun _ h => h.elim)
  have W1 := hW.stays (turned_below b1) (fun h => h) (fun _ _ h => h)
  have HX : Hid _ := And.intro R1 (And.intro t1 (And.intro W1 hW))
  clear R1 t1 W1 hW b1
  unfold arrV
  go_enter Try.func34, Try.ntmps34
  go_wp2_with fail
  obtain ⟨R1, t1, W1, W0⟩ := HX.out
  generalize w.alloc (.cells (vals l).toArray 77) = w1 at *
  clear HX
  have HR : Hid _ := And.intro R1 (And.intro t1 (And.intro W1 W0))
  clear R1 t1 W1 W0
  go_loopw [4] (fun p wr => ∃ k v', k ≤ 8 ∧ p = .int .i64 ((k * 8 : Nat) : Int) ∧ WrAt wr base g 104 v' (L ++ l.take (k * 8)) 0 ∧ Newer w v v' ∧ Turned (Mine g v) w wr ∧ Blk wr w.heap.size 77 (vals l)) (fun p _ => 64 - (intOf p).toNat)
  case atStart =>
    exact ⟨0, v, by omega, rfl, by simpa using HR.out.2.2.1, fun k hk => .inl hk, HR.out.2.1, HR.out.1⟩
  case round =>
    obtain ⟨k, v', hk, rfl, hW, hN, hT, hRo⟩ := hrel
    by_cases hlt : k < 8
    · have q1 : ((k * 8 : Nat) : Int) < 64 := by omega
      have HG : Hid _ := Get_yes (some ⟨w.heap.size, 0, none⟩) 64 64 l (k * 8) 8 wr hl (by omega) (blk_row hRo) (by omega) (by omega) (by omega)
      have H0 : Hid _ := And.intro hW (And.intro hN (And.intro hT hRo))
      clear hW hN hT hRo
      go_wp2_with fail
      refine (Calls.mono HG.out) ?_
      rintro e w2 ⟨rfl, rfl⟩
      clear HG
      have HNm : Hid _ := wNum_any base g v' (L ++ l.take (k * 8)) 0 8 (wrap64 ((numTo l (k * 8) 8).toNat : Int)) w2 H0.out.1 (by rw [List.length_append, List.length_take]; omega)
      have e8 : (wrNum (L ++ l.take (k * 8)) 0 8 (wrap64 ((numTo l (k * 8) 8).toNat : Int))) = (L ++ l.take ((k + 1) * 8), 0) := by
        rw [wr8, ofInt_wrap]
        unfold numTo
        rw [be_num 8 _ (by rw [List.length_take, List.length_drop]; omega) (by omega), List.append_assoc, show (k + 1) * 8 = k * 8 + 8 by omega, List.take_add]
      rw [e8] at HNm
      clear e8
      go_wp2_with fail
      refine (Calls.mono HNm.out) ?_
      rintro e w3 ⟨rfl, v3, W3, N3, T3⟩
      have hr3 : Blk w3 w.heap.size 77 (vals l) := H0.out.2.2.2.turned T3 (fun hm => by
        obtain ⟨lo, ho, -⟩ := H0.out.1.own
        rcases hm with hm | hm
        · have := HR.out.2.2.2.blk.lt; omega
        · exact own_apart ho H0.out.2.2.2 (by decide) _ hm rfl)
      have F : Hid _ := And.intro W3 (And.intro (H0.out.2.1.trans N3 H0.out.2.2.1.size) (And.intro (turned_more H0.out.2.1 H0.out.2.2.1 T3) hr3))
      clear W3 N3 T3 hr3 H0 HNm
      go_wp2_with fail
      exact ⟨⟨k + 1, v3, by omega, by go_num, F.out.1, F.out.2.1, F.out.2.2.1, F.out.2.2.2⟩, by simp [intOf]; omega⟩
    · obtain rfl : k = 8 := by omega
      have hW' : WrAt wr base g 104 v' (L ++ l) 0 := by rwa [List.take_of_length_le (by omega)] at hW
      have F : Hid _ := And.intro hW' (And.intro hN hT)
      clear hW hW' hN hT hRo HR
      go_wp2
      go_end0
      exact ⟨rfl, v', F.out.1, F.out.2.1, F.out.2.2⟩
end Go.Proofs.Ytmkacgdbmojomaa

