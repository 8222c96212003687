/- What the document's Add does. -/
import Derived.Test.YtgonglbgejaffaaXCpA
namespace Go.Proofs.Ytgonglbgejaffaa
open Go.RowKit
set_option linter.unusedVariables false
set_option linter.unusedSimpArgs false
set_option maxRecDepth 4000

theorem rqAdd_any (a : Option Addr) (cap : Nat) (l : List (BitVec 8)) (p : RQl) (m : CR) (w : World) (h : (rqOb p m).Ok w) (hw : CRw m) (hle : l.length ≤ cap) (hr : Row w a l) (hn : a = none → cap = 0) (hlen : l.length ≤ 140737488351232) (hadm : m.ad ≤ 1000000000) :
    Calls Try.prog 17 #[.pointer (some ⟨p.g, 0, none⟩), .slice a l.length cap] w fun e w' => e = .returned (.int .i64 (adE m p.cl l)) ∧ ∃ p', p'.g = p.g ∧ p'.cl = p.cl ∧ Step w w' (rqOb p m) (rqOb p' (adM m p.cl l)) := by
  have keep : ∀ {E : Int}, adE m p.cl l = E → adM m p.cl l = m → ∀ {e : Ending} {w' : World}, e = .returned (.int .i64 E) ∧ Below w.heap.size w w' → e = .returned (.int .i64 (adE m p.cl l)) ∧ ∃ p', p'.g = p.g ∧ p'.cl = p.cl ∧ Step w w' (rqOb p m) (rqOb p' (adM m p.cl l)) := by
    rintro E e1 e2 e w' ⟨rfl, hb⟩
    rw [e1, e2]
    exact ⟨rfl, p, rfl, rfl, Step.quiet h hb⟩
  cases hc : p.cl with
  | true =>
    rw [hc] at keep
    refine (rqAdd_closed a l.length cap p m w h hc).mono ?_
    rintro e w' ⟨rfl, rfl⟩
    exact keep (E := 5) (by unfold adE; rw [if_pos rfl]) (by unfold adM; rw [if_neg (fun e => absurd e.1 (by decide))]) ⟨rfl, Below.refl _ _⟩
  | false =>
    rw [hc] at keep
    by_cases hE : dcE l = 0
    · obtain ⟨id, i, cnt, s, d, hR, h1, h2, h3, h4⟩ := dcR_bd hE
      have hll := hw.len
      have hEq : adE m false l = (if m.id < id then 0 else if id < m.id then 5 else if m.ps.length = cnt ∧ m.s = s then 0 else 11) := by
        unfold adE
        rw [if_neg (by decide), if_pos hE, hR]
        rfl
      by_cases c1 : m.id < id
      · rw [if_pos c1] at hEq
        have hM : adM m false l = addM (setPc (begM m id s cnt) i d) := by
          unfold adM
          rw [if_pos ⟨rfl, hEq⟩, hR]
          show addM (setPc (if m.id < id then begM m id s (cnt : Int).toNat else m) (i : Int).toNat d) = _
          rw [if_pos c1]
          rfl
        rw [hEq, hM]
        have hh := rqAdd_new a cap l p m w h hc hle hr hn hlen hE id s i cnt d hR c1 hadm
        rw [hc] at hh
        exact hh
      · rw [if_neg c1] at hEq
        by_cases c2 : id < m.id
        · rw [if_pos c2] at hEq
          refine (rqAdd_old a cap l p m w h hc hle hr hn hlen hE id s i cnt d hR c2).mono ?_
          rintro e w' he
          exact keep hEq (by unfold adM; rw [if_neg (fun e => by rw [hEq] at e; exact absurd e.2 (by decide))]) he
        · rw [if_neg c2] at hEq
          have c3 : m.id = id := by omega
          by_cases c4 : m.ps.length = cnt ∧ m.s = s
          · rw [if_pos c4] at hEq
            have hM : adM m false l = addM (setPc m i d) := by
              unfold adM
              rw [if_pos ⟨rfl, hEq⟩, hR]
              show addM (setPc (if m.id < id then begM m id s (cnt : Int).toNat else m) (i : Int).toNat d) = _
              rw [if_neg c1]
              rfl
            rw [hEq, hM]
            have hh := rqAdd_same a cap l p m w h hc hle hr hn hlen hE id s i cnt d hR c3 c4.2 c4.1 hadm
            rw [hc] at hh
            exact hh
          · rw [if_neg c4] at hEq
            refine (rqAdd_form a cap l p m w h hc hle hr hn hlen hE id s i cnt d hR c3 c4).mono ?_
            rintro e w' he
            exact keep hEq (by unfold adM; rw [if_neg (fun e => by rw [hEq] at e; exact absurd e.2 (by decide))]) he
    · have hEq : adE m false l = dcE l := by unfold adE; rw [if_neg (by decide), if_neg hE]
      refine (rqAdd_err a cap l p m w h hc hle hr hn hlen hE).mono ?_
      rintro e w' he
      exact keep hEq (by unfold adM; rw [if_neg (fun e => hE (by rw [hEq] at e; exact e.2))]) he
end Go.Proofs.Ytgonglbgejaffaa

