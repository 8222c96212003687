/- TextParts holds, tied to the library's own tables, where the two lists hold together at most 1048576 values and letters: the bytes of pairs are those of the first ones and those of the others behind them, or refused where one of them is refused or there are too many. -/
import Derived.Test.YtligmiajlbjecaaDoorXWrap
import Derived.Test.YtligmiajlbjecaaDoorXTxB
import Derived.Test.YtligmiajlbjecaaDoorXTxA
import Derived.Deep.DeepHandedRow
import Derived.ChangeMaps5
import Derived.Test.YtligmiajlbjecaaDoorTie
import Derived.Test.YtligmiajlbjecaaDoorCards
import Derived.Test.YtligmiajlbjecaaDoorXTxL4
namespace Go.Proofs.YtligmiajlbjecaaDoor
open Go.ChangeShapes Go.WideShapes Go.ChangeAt Go.RowKit
set_option linter.unusedVariables false

set_option maxRecDepth 100000 in
theorem textParts_witness (os : Os) (started : os.Started) (H : Type) (enc : TypeId × Value → H) (w : World) (hw : DataW.whole enc Tryd.prog w Tryd.f8.params.toList (Rows.OpenSpec.upto Rows.textPartsSpec).vars false [.slice none 0 0, .slice none 0 0] 8 = some ([.nil, .nil], [], []))
    (hz : Rows.textPartsSpec.sizedB enc Tryd.prog Tryd.f8 false w #[.slice none 0 0, .slice none 0 0] 8 = true) (hl : laidMetH Tryd.prog [("math/bits.deBruijn32tab", Rows.laid_math_bits_deBruijn32tab), ("math/bits.deBruijn64tab", Rows.laid_math_bits_deBruijn64tab), ("internal/strconv.uint64pow10", Rows.laid_internal_strconv_uint64pow10)] w) :
    (Rows.OpenSpec.upto Rows.textPartsSpec).preRow enc Tryd.prog Tryd.f8 [] false [("math/bits.deBruijn32tab", Rows.laid_math_bits_deBruijn32tab), ("math/bits.deBruijn64tab", Rows.laid_math_bits_deBruijn64tab), ("internal/strconv.uint64pow10", Rows.laid_internal_strconv_uint64pow10)] w #[.slice none 0 0, .slice none 0 0] :=
  ⟨⟨(OpenSpec.pre_some (k := Rows.uptoSmall) rfl [] false _ _).2 ⟨_, _, _, DataW.Whole_of_whole hw, rfl, rfl⟩, hl⟩, (sizedMet_of_sizedB hz : sizedMet enc Tryd.prog Tryd.f8 (OpenSpec.ofChange Rows.textPartsSpec) false w #[.slice none 0 0, .slice none 0 0])⟩
set_option maxRecDepth 100000 in
theorem textParts_lifted (os : Os) (started : os.Started) (H : Type) (enc : TypeId × Value → H) (F : Stop.Interp) :
    ReturnsInHanded {} Tryd.checked os 8 .any ((Rows.OpenSpec.upto Rows.textPartsSpec).preRow enc Tryd.prog Tryd.f8 [] false [("math/bits.deBruijn32tab", Rows.laid_math_bits_deBruijn32tab), ("math/bits.deBruijn64tab", Rows.laid_math_bits_deBruijn64tab), ("internal/strconv.uint64pow10", Rows.laid_internal_strconv_uint64pow10)]) (((Rows.OpenSpec.upto Rows.textPartsSpec).at F).post enc Tryd.prog Tryd.f8 false true false false) := by
  refine returnsInHanded_of_row (C := Tryd.checked) own started (by kernel_rfl) Tryd.func8
    (witness_row_at (enc := enc) (C := Tryd.checked) (os := os) false
      { World.holding Tryd.prog os ⟨#[], #[], []⟩ with heap := ((((World.holding Tryd.prog os ⟨#[], #[], []⟩).heap.modify 2 fun
          | .cells _ t frozen => .cells db32C.toArray t frozen
          | o => o).modify 3 fun
          | .cells _ t frozen => .cells db64C.toArray t frozen
          | o => o).modify 0 fun
          | .cells _ t frozen => .cells powC.toArray t frozen
          | o => o) } #[.slice none 0 0, .slice none 0 0] rfl (by kernel_rfl) (by kernel_rfl) (by kernel_rfl)
      (textParts_witness os started H enc _ (by kernel_rfl) (by kernel_rfl) (laidMet_of_run' 8 (by kernel_rfl) (by kernel_rfl)))) ?_
  intro W base args ds gs before hval0 hW hcnd hk0 hsz0 hL _ _
  have hk : Rows.uptoSmall H (ds ++ gs) = true := hk0 _ rfl
  have hval : ∀ (j : Nat) t v, Tryd.f8.params[j]? = some t → args[j]? = some v → Value.okWide Tryd.prog W .any base t v := hval0
  have hsz : (DataW.weightsEach Tryd.prog (Tryd.f8.params.toList ++ (Rows.OpenSpec.upto Rows.textPartsSpec).bare.plain.varTypes Tryd.prog) (ds ++ gs)).all (· ≤ reachBytes) = true := hsz0
  have hW' : DataW.Whole enc Tryd.prog Tryd.f8.params.toList (Rows.OpenSpec.upto Rows.textPartsSpec).vars false W args.toList ds gs before := hW
  obtain ⟨p, q, hA0, hV, rfl, hfz, hnd⟩ := hW
  have hA : DataW.TrodAll enc Tryd.prog W 0 (fun _ => true) true Tryd.f8.params.toList args.toList ds p := hA0
  rw [Tryd.params8] at hA hval hsz
  obtain ⟨v0, vs0, d0, ds0, p0, q0, hargs, rfl, rfl, h0, r0⟩ := trodAll_cons hA
  obtain ⟨v1, vs1, d1, ds1, p1, q1, rfl, rfl, rfl, h1, r1⟩ := trodAll_cons r0
  obtain ⟨rfl, rfl, rfl⟩ := trodAll_nil r1
  obtain rfl : args = #[v0, v1] := by cases args; simp_all
  obtain ⟨rfl, rfl⟩ := trodVars_none hV
  have k0 := h0
  have lt0 : ∀ x ∈ p0, x.block < W.heap.size := by obtain ⟨m, hm⟩ := k0; exact DataW.trod_lt m _ _ _ hm
  obtain ⟨a0, len0, cap0, l0, rfl, B0⟩ := open_prs (hval 0 22 v0 rfl rfl) h0 hsz (j := 0) rfl rfl
  have k1 := h1
  have lt1 : ∀ x ∈ p1, x.block < W.heap.size := by obtain ⟨m, hm⟩ := k1; exact DataW.trod_lt m _ _ _ hm
  obtain ⟨a1, len1, cap1, l1, rfl, B1⟩ := open_prs (hval 1 22 v1 rfl rfl) h1 hsz (j := 1) rfl rfl
  have S0 : len0 ≤ 1048576 := by
    obtain ⟨_, _, _, e, hs⟩ := prs_small (hval 0 22 _ rfl rfl) h0 hk (by simp)
    cases e
    exact hs
  have S1 : len1 ≤ 1048576 := by
    obtain ⟨_, _, _, e, hs⟩ := prs_small (hval 1 22 _ rfl rfl) h1 hk (by simp)
    cases e
    exact hs
  clear hA0 hval0
  refine (textParts_walk a0 len0 cap0 l0 a1 len1 cap1 l1 W (pow_of_laid hL) B0 B1 S0 S1).mono fun e W' ⟨he, bel⟩ => ?_
  subst he
  exact ⟨_, rfl, _, _, _, [], _, [], hW', trodAll_mk1 (shut_bool Tryd.underlying4 _), (trodAll_cons_mk (Below.trod laidOut (by kernel_rfl) (of_decide_eq_true (by kernel_rfl)) k0 bel lt0) (trodAll_cons_mk (Below.trod laidOut (by kernel_rfl) (of_decide_eq_true (by kernel_rfl)) k1 bel lt1) trodAll_mk0)), rfl, bel.frame _, fun h => by cases h⟩

theorem textParts_said : Rows.TextPartsUptoSaid :=
  OpenClaim.holds_of_cond 8 Tryd.f8 rfl rfl rfl rfl rfl rfl rfl ⟨rfl, rfl, rfl, rfl, rfl⟩ rfl rfl rfl rfl rfl (by kernel_rfl) Tryd.func8 (by kernel_rfl)
    (of_decide_eq_true (by kernel_rfl)) (by unfold Func.isWrapper; first | (rw [if_pos (by decide +kernel)]; kernel_rfl) | (rw [if_neg (by decide +kernel)]; exact ⟨rfl, rfl⟩))
    (fun os started H enc _ F => by rw [OpenClaim.pre_eq_preRow]; exact textParts_lifted os started H enc F)
theorem textParts_holds : Rows.TextPartsUptoCardSaid :=
  Claim7.holds_tied_plain_at .later [] [.data, .data, .data] true Rows.textPartsUptoCard.stood.harness false
    textParts_said (fun _ h => by cases h) (by kernel_rfl) (fun _ h => by cases h) textPartsUpto_row_tie rfl ⟨rfl, rfl⟩ (by kernel_rfl) rfl
    (fun f fn hf hfn => by
      obtain rfl : f = 8 := Option.some.inj ((show Tryd.prog.funcNamed "caisson/caissonlaw18.TextParts" = some 8 by kernel_rfl).symm.trans hf) |>.symm
      obtain rfl : fn = Tryd.f8 := (Option.some.inj (Tryd.func8.symm.trans hfn)).symm
      exact ⟨by kernel_rfl, fun j t ht => by
        rw [Tryd.params8] at ht
        have h3 : t = 22 := by
          rcases j with _ | _ | j
          · exact (by simpa using ht.symm)
          · exact (by simpa using ht.symm)
          · simp at ht
        rcases h3 with rfl
        · exact (show Tryd.prog.wantsStandIn 22 = false by kernel_rfl)⟩)
    (by kernel_rfl)
#print axioms textParts_holds
end Go.Proofs.YtligmiajlbjecaaDoor

