/- What Add does to a reader in whatever state: the model, and the program's. -/
import Derived.Test.YtgonglbgejaffaaXCp7
namespace Go.Proofs.Ytgonglbgejaffaa
open Go.RowKit
set_option linter.unusedVariables false
set_option linter.unusedSimpArgs false
set_option maxRecDepth 4000

def adE (m : CR) (cl : Bool) (l : List (BitVec 8)) : Int :=
  if cl = true then 5 else if dcE l = 0 then (if m.id < (dcR l).1 then 0 else if (dcR l).1 < m.id then 5 else if m.ps.length = (dcR l).2.2.1.toNat ∧ m.s = (dcR l).2.2.2.1 then 0 else 11) else dcE l
def adM (m : CR) (cl : Bool) (l : List (BitVec 8)) : CR :=
  if cl = false ∧ adE m cl l = 0 then addM (setPc (if m.id < (dcR l).1 then begM m (dcR l).1 (dcR l).2.2.2.1 (dcR l).2.2.1.toNat else m) (dcR l).2.1.toNat (dcR l).2.2.2.2) else m
/-- a reader as Add leaves it -/
structure CRw (m : CR) : Prop where
  lo : 0 ≤ m.id
  no : ¬ m.id = 0 → m.ps.length ≠ 0
  few : m.ps.length ≤ 256
  each : ∀ o ∈ m.ps, (o.getD []).length ≤ 4096
theorem cr0_w : CRw cr0 := ⟨Int.le_refl _, fun h => absurd rfl h, Nat.zero_le _, fun o h => by cases h⟩
theorem lenOf_le (ps : List (Option (List (BitVec 8)))) (h : ∀ o ∈ ps, (o.getD []).length ≤ 4096) : lenOf ps ≤ 4096 * ps.length := by
  induction ps with
  | nil => exact Nat.le_refl _
  | cons o ps ih =>
    have h1 := h o (List.mem_cons_self)
    have h2 := ih (fun o' ho' => h o' (List.mem_cons_of_mem _ ho'))
    have e : lenOf (o :: ps) = (o.getD []).length + lenOf ps := rfl
    rw [e, List.length_cons]
    omega
theorem CRw.len {m : CR} (h : CRw m) : lenOf m.ps ≤ 1048576 := by
  have h1 := lenOf_le m.ps h.each
  have h2 := h.few
  omega
theorem rd2_lo (L : List (BitVec 8)) (E : Int) : 0 ≤ (rdNum L E 2).2.2 ∧ (rdNum L E 2).2.2 ≤ 4294967295 := by
  unfold rdNum
  split
  · split
    · rename_i h1 h2
      have hl : (numTo L 0 (2 : Int).toNat).toNat < 4294967296 := num_small _ (by rw [List.length_take]; exact Nat.le_trans (Nat.min_le_left _ _) (by decide))
      show 0 ≤ wrap64 _ ∧ wrap64 _ ≤ _
      generalize (numTo L 0 (2 : Int).toNat).toNat = x at *
      unfold wrap64
      omega
    · exact ⟨Int.le_refl _, by show (0 : Int) ≤ _; omega⟩
  · exact ⟨Int.le_refl _, by show (0 : Int) ≤ _; omega⟩
theorem dcR_bd {l : List (BitVec 8)} (h : dcE l = 0) : ∃ (id : Int) (i cnt : Nat) (s : Int) (d : List (BitVec 8)), dcR l = (id, (i : Int), (cnt : Int), s, d) ∧ 1 ≤ id ∧ i < cnt ∧ cnt ≤ 256 ∧ d.length ≤ 4096 := by
  have hR : dcR l = ((dc1 l).2.2, (dc2 l).2.2, (dc3 l).2.2, (dc4 l).2.2, (dc5 l).2.2) := by unfold dcR; rw [if_pos h]
  have hc : canC (dc1 l).2.2 (dc2 l).2.2 (dc3 l).2.2 (dc5 l).2.2.length = true := by
    unfold dcE at h
    split at h
    · split at h
      · split at h
        · assumption
        · exact absurd h (by decide)
      · exact absurd h (by decide)
    · rename_i h1; exact absurd h h1
  unfold canC idB at hc
  simp only [Bool.and_eq_true, decide_eq_true_eq] at hc
  obtain ⟨h1, h2, h3, h4⟩ := hc
  have h5 : 0 ≤ (dc2 l).2.2 := (rd2_lo _ _).1
  refine ⟨(dc1 l).2.2, (dc2 l).2.2.toNat, (dc3 l).2.2.toNat, (dc4 l).2.2, (dc5 l).2.2, ?_, h1.1, by omega, by omega, by omega⟩
  rw [hR, Int.toNat_of_nonneg h5, Int.toNat_of_nonneg (by omega)]
theorem begM_w {m : CR} {id s : Int} {cnt : Nat} (hid : 1 ≤ id) (hc : 1 ≤ cnt ∧ cnt ≤ 256) : CRw (begM m id s cnt) := by
  refine ⟨by show 0 ≤ id; omega, fun _ => ?_, ?_, fun o ho => ?_⟩
  · show (List.replicate cnt none).length ≠ 0
    rw [List.length_replicate]; omega
  · show (List.replicate cnt none).length ≤ 256
    rw [List.length_replicate]; omega
  · rw [(List.mem_replicate.1 ho).2]; exact Nat.zero_le _
theorem setPc_w {m : CR} (h : CRw m) (i : Nat) (d : List (BitVec 8)) (hd : d.length ≤ 4096) : CRw (addM (setPc m i d)) := by
  unfold setPc
  split
  · refine ⟨h.lo, fun e => ?_, ?_, fun o ho => ?_⟩
    · show (m.ps.set i (some d)).length ≠ 0
      rw [List.length_set]; exact h.no e
    · show (m.ps.set i (some d)).length ≤ 256
      rw [List.length_set]; exact h.few
    · rcases List.mem_or_eq_of_mem_set ho with ho | rfl
      · exact h.each o ho
      · exact hd
  · exact ⟨h.lo, h.no, h.few, h.each⟩
theorem adM_w {m : CR} (h : CRw m) (cl : Bool) (l : List (BitVec 8)) : CRw (adM m cl l) := by
  unfold adM
  split
  · rename_i h0
    have hE : dcE l = 0 := by
      have h1 := h0.2
      unfold adE at h1
      rw [h0.1, if_neg (by decide)] at h1
      split at h1
      · assumption
      · rename_i h2; exact absurd h1 h2
    obtain ⟨id, i, cnt, s, d, hR, h1, h2, h3, h4⟩ := dcR_bd hE
    rw [hR]
    show CRw (addM (setPc (if m.id < id then begM m id s cnt else m) (i : Int).toNat d))
    split
    · exact setPc_w (begM_w h1 ⟨by omega, h3⟩) _ d h4
    · exact setPc_w h _ d h4
  · exact h
theorem adM_ad {m : CR} (cl : Bool) (l : List (BitVec 8)) : m.ad ≤ (adM m cl l).ad ∧ (adM m cl l).ad ≤ m.ad + 1 := by
  unfold adM
  split
  · have e : ∀ c : CR, c.ad = m.ad → (addM (setPc c (dcR l).2.1.toNat (dcR l).2.2.2.2)).ad = m.ad + 1 := fun c hc => by
      show (setPc c _ _).ad + 1 = _
      rw [setPc_ad, hc]
    have e2 : (if m.id < (dcR l).1 then begM m (dcR l).1 (dcR l).2.2.2.1 (dcR l).2.2.1.toNat else m).ad = m.ad := by split <;> rfl
    rw [e _ e2]
    omega
  · omega
theorem cqAdd_any (a : Option Addr) (cap : Nat) (l : List (BitVec 8)) (p : CQl) (m : CR) (w : World) (h : (cqOb p m).Ok w) (hw : CRw m) (hle : l.length ≤ cap) (hr : Row w a l) (hn : a = none → cap = 0) (hlen : l.length ≤ 140737488351232) (hadm : m.ad ≤ 1000000000) :
    Calls Try.prog 16 #[.pointer (some ⟨p.g, 0, none⟩), .slice a l.length cap] w fun e w' => e = .returned (.int .i64 (adE m p.cl l)) ∧ ∃ p', p'.g = p.g ∧ p'.cl = p.cl ∧ Step w w' (cqOb p m) (cqOb p' (adM m p.cl l)) := by
  have keep : ∀ {E : Int}, adE m p.cl l = E → adM m p.cl l = m → ∀ {e : Ending} {w' : World}, e = .returned (.int .i64 E) ∧ Below w.heap.size w w' → e = .returned (.int .i64 (adE m p.cl l)) ∧ ∃ p', p'.g = p.g ∧ p'.cl = p.cl ∧ Step w w' (cqOb p m) (cqOb p' (adM m p.cl l)) := by
    rintro E e1 e2 e w' ⟨rfl, hb⟩
    rw [e1, e2]
    exact ⟨rfl, p, rfl, rfl, Step.quiet h hb⟩
  cases hc : p.cl with
  | true =>
    rw [hc] at keep
    refine (add_closed2 a l.length cap p m w h hc).mono ?_
    rintro e w' ⟨rfl, rfl⟩
    exact keep (E := 5) (by unfold adE; rw [if_pos rfl]) (by unfold adM; rw [if_neg (fun e => absurd e.1 (by decide))]) ⟨rfl, Below.refl _ _⟩
  | false =>
    rw [hc] at keep
    by_cases hE : dcE l = 0
    · obtain ⟨id, i, cnt, s, d, hR, h1, h2, h3, h4⟩ := dcR_bd hE
      have hll := hw.len
      have hEq : adE m false l = (if m.id < id then 0 else if id < m.id then 5 else if m.ps.length = cnt ∧ m.s = s then 0 else 11) := by
        unfold adE
        rw [if_neg (by decide), if_pos hE, hR]
        rfl
      by_cases c1 : m.id < id
      · rw [if_pos c1] at hEq
        have hM : adM m false l = addM (setPc (begM m id s cnt) i d) := by
          unfold adM
          rw [if_pos ⟨rfl, hEq⟩, hR]
          show addM (setPc (if m.id < id then begM m id s (cnt : Int).toNat else m) (i : Int).toNat d) = _
          rw [if_pos c1]
          rfl
        rw [hEq, hM]
        exact add_new2 a cap l p m w h hc hle hr hn hlen hE id s i cnt d hR c1 h2 h3 (by omega) hadm
      · rw [if_neg c1] at hEq
        by_cases c2 : id < m.id
        · rw [if_pos c2] at hEq
          refine (add_old2 a cap l p m w h hc hle hr hn hlen hE id s i cnt d hR c2).mono ?_
          rintro e w' he
          exact keep hEq (by unfold adM; rw [if_neg (fun e => by rw [hEq] at e; exact absurd e.2 (by decide))]) he
        · rw [if_neg c2] at hEq
          have c3 : m.id = id := by omega
          by_cases c4 : m.ps.length = cnt ∧ m.s = s
          · rw [if_pos c4] at hEq
            have hM : adM m false l = addM (setPc m i d) := by
              unfold adM
              rw [if_pos ⟨rfl, hEq⟩, hR]
              show addM (setPc (if m.id < id then begM m id s (cnt : Int).toNat else m) (i : Int).toNat d) = _
              rw [if_neg c1]
              rfl
            rw [hEq, hM]
            exact add_same2 a cap l p m w h hc hle hr hn hlen hE id s i cnt d hR c3 c4.2 c4.1 h2 h3 (by omega) hadm
          · rw [if_neg c4] at hEq
            refine (add_form2 a cap l p m w h hc hle hr hn hlen hE id s i cnt d hR c3 c4).mono ?_
            rintro e w' he
            exact keep hEq (by unfold adM; rw [if_neg (fun e => by rw [hEq] at e; exact absurd e.2 (by decide))]) he
    · have hEq : adE m false l = dcE l := by unfold adE; rw [if_neg (by decide), if_neg hE]
      refine (add_err2 a cap l p m w h hc hle hr hn hlen hE).mono ?_
      rintro e w' he
      exact keep hEq (by unfold adM; rw [if_neg (fun e => hE (by rw [hEq] at e; exact e.2))]) he
end Go.Proofs.Ytgonglbgejaffaa

