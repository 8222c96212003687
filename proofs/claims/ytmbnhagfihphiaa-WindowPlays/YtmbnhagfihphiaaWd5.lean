/- Commands wait to be told; those whose turn has come. -/
import Derived.Test.YtmbnhagfihphiaaWd4
import Derived.Test.YtmbnhagfihphiaaNs0
namespace Go.Proofs.Ytmbnhagfihphiaa
open Go.RowKit
set_option linter.unusedVariables false
set_option linter.unusedSimpArgs false
set_option maxRecDepth 8000

def nowN (l : List Cm) : Nat := (l.filter (·.2.1)).length
theorem nowN_append (l k : List Cm) : nowN (l ++ k) = nowN l + nowN k := by unfold nowN; rw [List.filter_append, List.length_append]
theorem nowN_one (c : Cm) : nowN [c] = if c.2.1 then 1 else 0 := by unfold nowN; cases h : c.2.1 <;> simp [h]
theorem nowN_le (l : List Cm) : nowN l ≤ l.length := List.length_filter_le _ _
def Wn.counted (m : Wn) (k : Nat) : Wn := { m with nows := m.nows + k }
def Wn.waits (m : Wn) (l : List Cm) : Wn := { m with wait := m.wait ++ l, nows := m.nows + nowN l }
theorem count_step {g : Nat} {p : Wq} {m : Wn} {k : Nat} {w : World} (h : (wd g p (m.counted k)).Ok w) :
    Step w (w.setCell ⟨g, 5, none⟩ (.int .i64 (((m.nows + k : Nat) : Int) + 1))) (wd g p (m.counted k)) (wd g p (m.counted (k + 1))) := by
  obtain ⟨hv, wv, A, H⟩ := wd_put h
  refine WdPut.done (m' := m.counted (k + 1)) H ?_ (grown_set w g 5 _)
  have e : (((m.counted (k + 1)).nows : Nat) : Int) = ((m.nows + k : Nat) : Int) + 1 := by unfold Wn.counted; simp only; omega
  rw [e]
  exact A.blk.set 5 _
theorem wait_done {g : Nat} {p : Wq} {m : Wn} {l : List Cm} {w : World} {x : Value} (h : (wd g p (m.counted (nowN l))).Ok w) (hx : GAt kCmd w x l) (hm : m.wait.length + l.length ≤ 1000000) :
    ∃ hv wv v' w' p', WdAt w g p.1 p.2 hv wv (m.counted (nowN l)) ∧ (Builtin.append_ #[50, 50] 50 #[wv, x]).run Try.prog w = .ok v' w' ∧ w'.cell? ⟨g, 4, none⟩ = some wv ∧ w'.frozen? ⟨g, 4, none⟩ = false ∧ (∃ a n c, v' = .slice a n c) ∧ Step w (w'.setCell ⟨g, 4, none⟩ v') (wd g p (m.counted (nowN l))) (wd g p' (m.waits l)) := by
  obtain ⟨hv, wv, A, H⟩ := wd_put h
  obtain ⟨v', w', q', hr, ho, hg, hor⟩ := A.wait.append kCmd_ok hx hm 50
  have ap := h.holds.1
  have H2 : WdPut g p (p.1, q') (m.counted (nowN l)) w w' hv wv hv v' (m.waits l).held (m.waits l).wait :=
    ⟨H.ok, H.blk, turned_grown hg (fun k e => .inr e), H.held.same (fun k hk => hg.block k (H.held.lt k hk) (fun e => ap.c k hk e.symm)), ho, H.or1, hor, fun k h1 h2 => by
      rcases hor k h2 with e | e
      · exact ap.c k h1 e
      · have := H.held.lt k h1; omega⟩
  refine ⟨hv, wv, v', w', (p.1, q'), A, hr, ?_, blk_frozen H2.blk5 4, (by obtain ⟨a, c, e, _⟩ := ho.cell kCmd_ok; exact ⟨a, _, c, e⟩), ?_⟩
  · rw [blk_at H2.blk5]; rfl
  · exact H2.done (m' := m.waits l) (H2.blk5.set 4 v') (grown_set _ g 4 v')
set_option maxHeartbeats 2000000 in
theorem wdWait_any (g : Nat) (p : Wq) (m : Wn) (l : List Cm) (v : Value) (ql : Option Nat) (w : World) (h : (wd g p m).Ok w) (hv : GSl kCmd w v ql l) (hq : ∀ k, ql = some k → k ∉ wdW g p) (hm : m.wait.length + l.length ≤ 20000) (hn : m.nows ≤ 20000) :
    Calls Try.prog 24 #[.pointer (some ⟨g, 0, none⟩), v] w fun e w' => e = .returned (.tuple #[]) ∧ ∃ p', Step w w' (wd g p m) (wd g p' (m.waits l)) := by
  obtain ⟨va, vc, rfl, hvc, -, -⟩ := hv.cell kCmd_ok
  have HV : Hid _ := And.intro hv hq
  have HS : Hid _ := (Step.refl h : Step w w (wd g p m) (wd g p (m.counted 0)))
  clear h hv hq
  go_enter Try.func24, Try.ntmps24
  go_wp2_with fail
  go_loopw [8] (fun iv wr => ∃ (k : Nat), iv = .int .i64 k ∧ k ≤ l.length ∧ Step w wr (wd g p m) (wd g p (m.counted (nowN (l.take k))))) (fun iv _ => l.length - (intOf iv).toNat)
  case atStart => exact ⟨0, rfl, by omega, HS.out⟩
  case round =>
    obtain ⟨k, rfl, hk, hs⟩ := hrel
    have hv2 := HV.out.1.turned hs.turned (fun i hi e => HV.out.2 i hi e)
    by_cases hlt : k < l.length
    · obtain ⟨a2, c2, e2, -, -, hcs⟩ := hv2.cell kCmd_ok
      simp only [Value.slice.injEq] at e2
      obtain ⟨rfl, -, rfl⟩ := e2
      obtain ⟨b, off, rfl, -, hc⟩ := hcs k hlt
      have k1 : wr.cell? ⟨b, off + k * 3, none⟩ = some (.int .u32 (l[k].1.toNat : Int)) := hc 0 (by simp [kCmd])
      have k2 : wr.cell? ⟨b, off + k * 3 + 1, none⟩ = some (.bool l[k].2.1) := hc 1 (by simp [kCmd])
      have k3 : wr.cell? ⟨b, off + k * 3 + 2, none⟩ = some (.int .i64 l[k].2.2) := hc 2 (by simp [kCmd])
      have q1 : (k : Int) < l.length := by omega
      have hsn : nowN (l.take (k + 1)) = nowN (l.take k) + (if l[k].2.1 then 1 else 0) := by rw [List.take_succ_eq_append_getElem hlt, nowN_append, nowN_one]
      have hle : nowN (l.take k) ≤ 20000 := by have := nowN_le (l.take k); rw [List.length_take] at this; omega
      generalize l[k] = x at *
      obtain ⟨xn, xb, xi⟩ := x
      simp only at k1 k2 k3 hsn
      have bn : Below wr.heap.size wr (wr.alloc (.cells #[.int .u32 (xn.toNat : Int), .bool xb, .int .i64 xi] 54)) := (Below.refl _ _).alloc (Nat.le_refl _) _
      have N := Blk.new' wr 54 [.int .u32 (xn.toNat : Int), .bool xb, .int .i64 xi]
      have S1 := hs.trans (Step.quiet hs.ok bn)
      obtain ⟨hv9, wv9, A9, -⟩ := wd_put S1.ok
      have z1 := blk_at N 1
      have z5 := blk_at A9.blk 5
      have f5 := blk_frozen A9.blk 5
      simp only [List.getElem?_cons_succ, List.getElem?_cons_zero] at z1 z5
      have e5 : (m.counted (nowN (l.take k))).nows = m.nows + nowN (l.take k) := rfl
      rw [e5] at z5
      cases xb
      · have F : Hid _ := S1
        have HN : Hid _ := hsn
        clear hs hv2 hcs hc bn N S1 A9 e5 hsn
        go_wp2
        go_roundw
        case rel => exact ⟨k + 1, by go_num, by omega, by rw [HN.out]; exact F.out⟩
        case measure => simp [intOf]; omega
      · have F : Hid _ := S1.trans (count_step S1.ok)
        have HN : Hid _ := hsn
        have q5 : -9223372036854775808 ≤ ((m.nows + nowN (l.take k) : Nat) : Int) + 1 ∧ ((m.nows + nowN (l.take k) : Nat) : Int) + 1 ≤ 9223372036854775807 := by omega
        generalize ((m.nows + nowN (l.take k) : Nat) : Int) = nz at *
        clear hs hv2 hcs hc bn N S1 A9 e5 hsn
        go_wp2
        go_roundw
        case rel => exact ⟨k + 1, by go_num, by omega, by rw [HN.out]; exact F.out⟩
        case measure => simp [intOf]; omega
    · have hkl : k = l.length := by omega
      subst hkl
      rw [List.take_length] at hs
      obtain ⟨hv9, wv9, v', w', p', A9, hr, k4, f4, ⟨a8, n8, c8, rfl⟩, S4⟩ := wait_done hs.ok (hv2.at kCmd_ok) (by omega)
      obtain ⟨a9, c9, rfl, -, -, -⟩ := A9.wait.cell kCmd_ok
      have z4 := blk_at A9.blk 4
      simp only [List.getElem?_cons_succ, List.getElem?_cons_zero] at z4
      have F : Hid _ := hs.trans S4
      have HR : Hid _ := hr
      clear hs hv2 A9 S4 hr HV HS
      go_wp2_with (at_builtin; refine wpList_run_app rfl _ _ 50 50 rfl _ _ rfl rfl HR.out ?_)
      go_wp2
      go_end0
      exact ⟨rfl, _, F.out⟩
end Go.Proofs.Ytmbnhagfihphiaa
