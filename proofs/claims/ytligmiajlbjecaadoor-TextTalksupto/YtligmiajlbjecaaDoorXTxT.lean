/- Pairs of few letters that came in; the walk of TextTalks, as the row wants it. -/
import Derived.Test.YtligmiajlbjecaaDoorXTxL6
import Derived.Test.YtligmiajlbjecaaDoorXTxA
import Derived.Test.YtligmiajlbjecaaDoorXTxP
namespace Go.Proofs.YtligmiajlbjecaaDoor
open Go.ChangeShapes Go.WideShapes Go.ChangeAt Go.RowKit Go.Deep
set_option linter.unusedVariables false
set_option maxRecDepth 100000

theorem prz_bulk {H : Type} {enc : TypeId × Value → H} {W : World} {cs : List Value} {d : DataW H} {p : List MemPlace} {fuel : Nat} (hlen : cs.length = 2)
    (hf : DataW.trod enc Tryd.prog W 0 (fun _ => true) true fuel 41 cs = some (d, p)) :
    ∃ (z0 : ByteArray) (z1 : ByteArray), cs = [.string z0, .string z1] ∧ z1.size ≤ Rows.uptoBulk d := by
  obtain ⟨f0, f1, hu, ⟨o0, o1⟩, ⟨c0, c1⟩, ⟨u0, u1⟩⟩ := under_prz
  obtain ⟨xs, k, hk, hxy, _, hxl, hfl⟩ := DataW.trod_struct hu hf
  match xs, hxl, cs, hlen with
  | [y0, y1], _, [v0, v1], _ =>
    simp only [Prod.mk.injEq] at hxy
    have hd : d = .agg [y0.1, y1.1] := hxy.1
    have g0 := hfl 0 f0 rfl
    have g1 := hfl 1 f1 rfl
    simp [o0, o1, c0, c1] at g0 g1
    obtain ⟨z0, q0, _, r0⟩ := DataW.trod_string u0 g0
    simp at q0
    subst q0
    obtain ⟨z1, q1, e1, r1⟩ := DataW.trod_string u1 g1
    simp at q1
    subst q1
    refine ⟨z0, z1, rfl, ?_⟩
    rw [hd, e1]
    simp only [Rows.uptoBulk, Rows.uptoBulkAll]
    have : z1.data.toList.length = z1.size := by simp
    omega
theorem prs_short {H : Type} {enc : TypeId × Value → H} {W : World} {a : Option Addr} {len cap : Nat} {l : List (ByteArray × ByteArray)} {d : DataW H} {p : List MemPlace} {ds : List (DataW H)}
    (h : DataW.Trod enc Tryd.prog W 0 (fun _ => true) true 22 (.slice a len cap) d p)
    (hk : Rows.uptoSmall H ds = true) (hd : d ∈ ds) (hl : PrArg W a len cap l) : ∀ x ∈ l, x.2.size ≤ 4194304 := by
  obtain ⟨fuel, hf⟩ := h
  have h1 : Rows.uptoBulkAll ds ≤ 1048576 := of_decide_eq_true hk
  have h2 := bulk_part hd
  have hlen := hl.len_eq
  rcases open_slice Tryd.underlying22 hf with ⟨hcs, hx⟩ | ⟨x, len', cap', m, n, D, Pl, hcs, hb, hle, hm, hmm, hx, hel⟩
  · simp [Value.cells] at hcs
    obtain ⟨rfl, rfl, rfl⟩ := hcs
    intro x hx
    have : l = [] := List.eq_nil_of_length_eq_zero hlen.symm
    rw [this] at hx; cases hx
  · simp [Value.cells] at hcs
    obtain ⟨rfl, rfl, rfl⟩ := hcs
    simp at hmm
    subst hmm
    simp only [Prod.mk.injEq] at hx
    rw [hx.1] at h2
    simp only [Rows.uptoBulk] at h2
    intro y hy
    obtain ⟨i, hi, rfl⟩ := List.getElem_of_mem hy
    obtain ⟨cs', g1, g2⟩ := hel i (by omega)
    rw [cells_prz] at g1
    obtain ⟨_, hlen2, hcell⟩ := World.cells?_some g1
    obtain ⟨z0, z1, rfl, hz⟩ := prz_bulk hlen2 g2
    have hmem : D i ∈ (List.range len).map D := List.mem_map.2 ⟨i, List.mem_range.2 (by omega), rfl⟩
    have h3 := bulk_part hmem
    have hA := hl.at_
    rw [← hlen] at hA
    obtain ⟨b, off, e, hc⟩ := hA.each kRp_ok i hi
    cases e
    have hc1 := hc 1 (by simp [kRp])
    simp only [kRp, List.getElem?_cons_zero, List.getElem?_cons_succ] at hc1
    have e1 := hcell 1 (by omega)
    simp only [opn_add, List.getElem?_cons_zero, List.getElem?_cons_succ] at e1
    rw [hc1] at e1
    have e2 : l[i].2 = z1 := by injection e1 with e; injection e
    rw [e2]
    omega
theorem textTalks_walk (z0 : Bool) (z1 : Bool) (z2 : Int) (z3 : Int) (z4 : Int) (z5 : Int) (z6 : Bool) (z7 : Bool) (z8 : Bool) (z9 : ByteArray) (z10 : ByteArray) (a1 : Option Addr) (len1 cap1 : Nat) (l : List (ByteArray × ByteArray)) (a2 : Option Addr) (len2 cap2 : Nat) (m : List (ByteArray × ByteArray)) (w : World) (hP : PowT w) (C0 : I64 z2 ∧ I64 z3 ∧ I64 z4 ∧ I64 z5 ∧ z9.size ≤ maxLen ∧ z10.size ≤ maxLen) (B1 : PrArg w a1 len1 cap1 l) (B2 : PrArg w a2 len2 cap2 m) (S1 : ∀ x ∈ l, x.2.size ≤ 4194304) (S2 : ∀ x ∈ m, x.2.size ≤ 4194304) :
    Calls Tryd.prog 5 #[.agg #[.bool z0, .bool z1, .int .i64 z2, .int .i64 z3, .int .i64 z4, .int .i64 z5, .bool z6, .bool z7, .bool z8, .string z9, .string z10], .slice a1 len1 cap1, .slice a2 len2 cap2] w fun e w' => e = .returned (.bool true) ∧ Below w.heap.size w w' :=
  textTalks_go ⟨z0, z1, z2, z3, z4, z5, z6, z7, z8, z9, z10⟩ a1 len1 cap1 l a2 len2 cap2 m w hP B1 B2 S1 S2
end Go.Proofs.YtligmiajlbjecaaDoor

