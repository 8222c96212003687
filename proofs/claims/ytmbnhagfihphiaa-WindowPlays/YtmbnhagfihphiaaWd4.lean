/- Whether a command is taken; the next one that is told; those that wait. -/
import Derived.Test.YtmbnhagfihphiaaWd3
namespace Go.Proofs.Ytmbnhagfihphiaa
open Go.RowKit
set_option linter.unusedVariables false
set_option linter.unusedSimpArgs false
set_option maxRecDepth 8000

theorem wdPlacesB (g : Nat) (p : Wq) (m : Wn) (w : World) (h : (wd g p m).Ok w) (hw : m.Wf) :
    Calls Try.prog 26 #[.pointer (some ⟨g, 0, none⟩)] w fun e w' => e = .returned (.int .i64 ((m.size - m.busy : Nat) : Int)) ∧ Below w.heap.size w w' :=
  (wdPlaces_any g p m w h hw).mono (fun e w' ⟨h1, n, h2⟩ => ⟨h1, by rw [h2]; exact dn9 _ _ _⟩)
/-- is there a place for the number, and is it not held? -/
def Wn.room (m : Wn) (n : BitVec 32) : Bool := decide (gap m.exp n < ((m.size - m.busy : Nat) : Int))
def Wn.has (m : Wn) (n : BitVec 32) : Bool := m.held.any (fun c => decide (c.1 = n))
set_option maxHeartbeats 2000000 in
theorem wdTakes_any (g : Nat) (p : Wq) (m : Wn) (n : BitVec 32) (w : World) (h : (wd g p m).Ok w) (hw : m.Wf) :
    Calls Try.prog 22 #[.pointer (some ⟨g, 0, none⟩), .int .u32 (n.toNat : Int)] w fun e w' => e = .returned (.bool (m.room n && !m.has n)) ∧ Below w.heap.size w w' := by
  obtain ⟨hn, hv, wv, hB, hH, -⟩ := id h.holds
  have c0 := blk_at hB 0
  have c3 := blk_at hB 3
  simp only [List.getElem?_cons_succ, List.getElem?_cons_zero] at c0 c3
  obtain ⟨a, c, rfl, -, -, -⟩ := hH.cell kCmd_ok
  have HC : Hid _ := And.intro c0 c3
  have HO : Hid _ := And.intro h (And.intro hw hH)
  have hd : ((m.size - m.busy : Nat) : Int) ≤ 9223372036854775807 := by have := hw.most; omega
  have few : m.held.length ≤ 20000 := by have := hw.few; omega
  have HI : Hid _ := And.intro (fun X => in_any m.exp n _ X hd) few
  have ER : Hid (decide (gap m.exp n < ((m.size - m.busy : Nat) : Int)) = m.room n) := (rfl : decide (gap m.exp n < ((m.size - m.busy : Nat) : Int)) = m.room n)
  clear hB hn hH c0 c3 h hw hd few
  generalize hr : m.room n = R at *
  clear hr
  go_enter Try.func22, Try.ntmps22
  go_wp2_with fail
  cases R
  · refine wp_region_held_drew (S := fun W => Below w.heap.size w W) (by kernel_rfl) ((Below.refl _ _).drew) (fun hS => ?_)
    refine any_take (i := 0) (v := ?_) rfl (by kernel_rfl) (by kernel_rfl) (by kernel_rfl) (by exact fun _ _ _ h => h) (by rfl) ?_ hS ?_
    rotate_left
    · ((intro W hSw; have c0 := cell_later hSw HC.out.1; have c3 := cell_later hSw HC.out.2; clear hSw; go_simp) <;> with_reducible rfl)
    (try simp only [Act.put, List.setIfInBounds_toArray, List.set_cons_zero, List.set_cons_succ])
    refine any_take (i := 1) (v := ?_) rfl (by kernel_rfl) (by kernel_rfl) (by kernel_rfl) (by exact fun _ _ _ h => h) (by rfl) ?_ hS ?_
    rotate_left
    · ((intro W hSw; have c0 := cell_later hSw HC.out.1; have c3 := cell_later hSw HC.out.2; clear hSw; go_simp) <;> with_reducible rfl)
    (try simp only [Act.put, List.setIfInBounds_toArray, List.set_cons_zero, List.set_cons_succ])
    refine any_take (i := 2) (v := ?_) rfl (by kernel_rfl) (by kernel_rfl) (by kernel_rfl) (by exact fun _ _ _ h => h) (by rfl) ?_ hS ?_
    rotate_left
    · ((intro W hSw; have c0 := cell_later hSw HC.out.1; have c3 := cell_later hSw HC.out.2; clear hSw; go_simp) <;> with_reducible rfl)
    (try simp only [Act.put, List.setIfInBounds_toArray, List.set_cons_zero, List.set_cons_succ])
    refine any_take (i := 3) (v := ?_) rfl (by kernel_rfl) (by kernel_rfl) (by kernel_rfl) (by exact fun _ _ _ h => h) (by rfl) ?_ hS ?_
    rotate_left
    · ((intro W hSw; have c0 := cell_later hSw HC.out.1; have c3 := cell_later hSw HC.out.2; clear hSw; go_simp) <;> with_reducible rfl)
    (try simp only [Act.put, List.setIfInBounds_toArray, List.set_cons_zero, List.set_cons_succ])
    refine any_take (i := 4) (v := ?_) rfl (by kernel_rfl) (by kernel_rfl) (by kernel_rfl) (by exact fun _ _ _ h => h) (by rfl) ?_ hS ?_
    rotate_left
    · ((intro W hSw; have c0 := cell_later hSw HC.out.1; have c3 := cell_later hSw HC.out.2; clear hSw; go_simp) <;> with_reducible rfl)
    (try simp only [Act.put, List.setIfInBounds_toArray, List.set_cons_zero, List.set_cons_succ])
    refine any_take (i := 6) (v := ?_) rfl (by kernel_rfl) (by kernel_rfl) (by kernel_rfl) (by exact fun _ _ _ h => h) (by rfl) ?_ hS ?_
    rotate_left
    · ((intro W hSw; have c0 := cell_later hSw HC.out.1; have c3 := cell_later hSw HC.out.2; clear hSw; go_simp) <;> with_reducible rfl)
    (try simp only [Act.put, List.setIfInBounds_toArray, List.set_cons_zero, List.set_cons_succ])
    refine any_one (i := 5) rfl (by kernel_rfl) (fun K hK => ?_)
    go_simp
    refine (Calls.mono (wdPlacesB g p m _ (HO.out.1.later hS) HO.out.2.1)) ?_
    rintro e x1 ⟨rfl, hbR⟩
    have B1 : Below w.heap.size w x1 := below_then hS hbR
    clear hbR
    go_wp2_with fail
    refine hK.out _ _ (B1) ?_
    clear hK K hS
    have hS := B1
    refine any_one (i := 7) rfl (by kernel_rfl) (fun K hK => ?_)
    go_simp
    refine (Calls.mono (HI.out.1 _)) ?_
    rintro e _ ⟨rfl, rfl⟩
    rw [ER.out]
    go_wp2_with fail
    refine hK.out _ _ (B1) ?_
    clear hK K hS
    have hS := B1
    refine any_take (i := 8) (v := ?_) rfl (by kernel_rfl) (by kernel_rfl) (by kernel_rfl) (by exact fun _ _ _ h => h) (by rfl) ?_ hS ?_
    rotate_left
    · ((intro W hSw; have c0 := cell_later hSw HC.out.1; have c3 := cell_later hSw HC.out.2; clear hSw; go_simp) <;> with_reducible rfl)
    (try simp only [Act.put, List.setIfInBounds_toArray, List.set_cons_zero, List.set_cons_succ])
    refine any_skip (i := 9) rfl (by kernel_rfl) (by kernel_rfl) (by kernel_rfl) (by exact fun _ _ _ h => h) (by rfl) hS ?_
    (try simp only [Act.put, List.setIfInBounds_toArray, List.set_cons_zero, List.set_cons_succ])
    refine any_skip (i := 10) rfl (by kernel_rfl) (by kernel_rfl) (by kernel_rfl) (by exact fun _ _ _ h => h) (by rfl) hS ?_
    (try simp only [Act.put, List.setIfInBounds_toArray, List.set_cons_zero, List.set_cons_succ])
    refine any_skip (i := 11) rfl (by kernel_rfl) (by kernel_rfl) (by kernel_rfl) (by exact fun _ _ _ h => h) (by rfl) hS ?_
    (try simp only [Act.put, List.setIfInBounds_toArray, List.set_cons_zero, List.set_cons_succ])
    refine any_skip (i := 12) rfl (by kernel_rfl) (by kernel_rfl) (by kernel_rfl) (by exact fun _ _ _ h => h) (by rfl) hS ?_
    (try simp only [Act.put, List.setIfInBounds_toArray, List.set_cons_zero, List.set_cons_succ])
    refine any_skip (i := 13) rfl (by kernel_rfl) (by kernel_rfl) (by kernel_rfl) (by exact fun _ _ _ h => h) (by rfl) hS ?_
    (try simp only [Act.put, List.setIfInBounds_toArray, List.set_cons_zero, List.set_cons_succ])
    refine any_skip (i := 14) rfl (by kernel_rfl) (by kernel_rfl) (by kernel_rfl) (by exact fun _ _ _ h => h) (by rfl) hS ?_
    (try simp only [Act.put, List.setIfInBounds_toArray, List.set_cons_zero, List.set_cons_succ])
    refine any_skip (i := 15) rfl (by kernel_rfl) (by kernel_rfl) (by kernel_rfl) (by exact fun _ _ _ h => h) (by rfl) hS ?_
    (try simp only [Act.put, List.setIfInBounds_toArray, List.set_cons_zero, List.set_cons_succ])
    refine any_skip (i := 16) rfl (by kernel_rfl) (by kernel_rfl) (by kernel_rfl) (by exact fun _ _ _ h => h) (by rfl) hS ?_
    (try simp only [Act.put, List.setIfInBounds_toArray, List.set_cons_zero, List.set_cons_succ])
    refine any_take (i := 17) (v := ?_) rfl (by kernel_rfl) (by kernel_rfl) (by kernel_rfl) (by exact fun _ _ _ h => h) (by rfl) ?_ hS ?_
    rotate_left
    · ((intro W hSw; have c0 := cell_later hSw HC.out.1; have c3 := cell_later hSw HC.out.2; clear hSw; go_simp) <;> with_reducible rfl)
    (try simp only [Act.put, List.setIfInBounds_toArray, List.set_cons_zero, List.set_cons_succ])
    refine any_take (i := 18) (v := ?_) rfl (by kernel_rfl) (by kernel_rfl) (by kernel_rfl) (by exact fun _ _ _ h => h) (by rfl) ?_ hS ?_
    rotate_left
    · ((intro W hSw; have c0 := cell_later hSw HC.out.1; have c3 := cell_later hSw HC.out.2; clear hSw; go_simp) <;> with_reducible rfl)
    (try simp only [Act.put, List.setIfInBounds_toArray, List.set_cons_zero, List.set_cons_succ])
    refine wpAnyH_done (by kernel_rfl) ?_ _
    go_wp2
    go_ret
    exact ⟨by simp, B1⟩
  · refine wp_region_held_drew (S := fun W => Below w.heap.size w W) (by kernel_rfl) ((Below.refl _ _).drew) (fun hS => ?_)
    refine any_take (i := 0) (v := ?_) rfl (by kernel_rfl) (by kernel_rfl) (by kernel_rfl) (by exact fun _ _ _ h => h) (by rfl) ?_ hS ?_
    rotate_left
    · ((intro W hSw; have c0 := cell_later hSw HC.out.1; have c3 := cell_later hSw HC.out.2; clear hSw; go_simp) <;> with_reducible rfl)
    (try simp only [Act.put, List.setIfInBounds_toArray, List.set_cons_zero, List.set_cons_succ])
    refine any_take (i := 1) (v := ?_) rfl (by kernel_rfl) (by kernel_rfl) (by kernel_rfl) (by exact fun _ _ _ h => h) (by rfl) ?_ hS ?_
    rotate_left
    · ((intro W hSw; have c0 := cell_later hSw HC.out.1; have c3 := cell_later hSw HC.out.2; clear hSw; go_simp) <;> with_reducible rfl)
    (try simp only [Act.put, List.setIfInBounds_toArray, List.set_cons_zero, List.set_cons_succ])
    refine any_take (i := 2) (v := ?_) rfl (by kernel_rfl) (by kernel_rfl) (by kernel_rfl) (by exact fun _ _ _ h => h) (by rfl) ?_ hS ?_
    rotate_left
    · ((intro W hSw; have c0 := cell_later hSw HC.out.1; have c3 := cell_later hSw HC.out.2; clear hSw; go_simp) <;> with_reducible rfl)
    (try simp only [Act.put, List.setIfInBounds_toArray, List.set_cons_zero, List.set_cons_succ])
    refine any_take (i := 3) (v := ?_) rfl (by kernel_rfl) (by kernel_rfl) (by kernel_rfl) (by exact fun _ _ _ h => h) (by rfl) ?_ hS ?_
    rotate_left
    · ((intro W hSw; have c0 := cell_later hSw HC.out.1; have c3 := cell_later hSw HC.out.2; clear hSw; go_simp) <;> with_reducible rfl)
    (try simp only [Act.put, List.setIfInBounds_toArray, List.set_cons_zero, List.set_cons_succ])
    refine any_take (i := 4) (v := ?_) rfl (by kernel_rfl) (by kernel_rfl) (by kernel_rfl) (by exact fun _ _ _ h => h) (by rfl) ?_ hS ?_
    rotate_left
    · ((intro W hSw; have c0 := cell_later hSw HC.out.1; have c3 := cell_later hSw HC.out.2; clear hSw; go_simp) <;> with_reducible rfl)
    (try simp only [Act.put, List.setIfInBounds_toArray, List.set_cons_zero, List.set_cons_succ])
    refine any_take (i := 6) (v := ?_) rfl (by kernel_rfl) (by kernel_rfl) (by kernel_rfl) (by exact fun _ _ _ h => h) (by rfl) ?_ hS ?_
    rotate_left
    · ((intro W hSw; have c0 := cell_later hSw HC.out.1; have c3 := cell_later hSw HC.out.2; clear hSw; go_simp) <;> with_reducible rfl)
    (try simp only [Act.put, List.setIfInBounds_toArray, List.set_cons_zero, List.set_cons_succ])
    refine any_one (i := 5) rfl (by kernel_rfl) (fun K hK => ?_)
    go_simp
    refine (Calls.mono (wdPlacesB g p m _ (HO.out.1.later hS) HO.out.2.1)) ?_
    rintro e x1 ⟨rfl, hbR⟩
    have B1 : Below w.heap.size w x1 := below_then hS hbR
    clear hbR
    go_wp2_with fail
    refine hK.out _ _ (B1) ?_
    clear hK K hS
    have hS := B1
    refine any_one (i := 7) rfl (by kernel_rfl) (fun K hK => ?_)
    go_simp
    refine (Calls.mono (HI.out.1 _)) ?_
    rintro e _ ⟨rfl, rfl⟩
    rw [ER.out]
    go_wp2_with fail
    refine hK.out _ _ (B1) ?_
    clear hK K hS
    have hS := B1
    refine any_take (i := 8) (v := ?_) rfl (by kernel_rfl) (by kernel_rfl) (by kernel_rfl) (by exact fun _ _ _ h => h) (by rfl) ?_ hS ?_
    rotate_left
    · ((intro W hSw; have c0 := cell_later hSw HC.out.1; have c3 := cell_later hSw HC.out.2; clear hSw; go_simp) <;> with_reducible rfl)
    (try simp only [Act.put, List.setIfInBounds_toArray, List.set_cons_zero, List.set_cons_succ])
    refine any_take (i := 9) (v := ?_) rfl (by kernel_rfl) (by kernel_rfl) (by kernel_rfl) (by exact fun _ _ _ h => h) (by rfl) ?_ hS ?_
    rotate_left
    · ((intro W hSw; have c0 := cell_later hSw HC.out.1; have c3 := cell_later hSw HC.out.2; clear hSw; go_simp) <;> with_reducible rfl)
    (try simp only [Act.put, List.setIfInBounds_toArray, List.set_cons_zero, List.set_cons_succ])
    refine any_take (i := 10) (v := ?_) rfl (by kernel_rfl) (by kernel_rfl) (by kernel_rfl) (by exact fun _ _ _ h => h) (by rfl) ?_ hS ?_
    rotate_left
    · ((intro W hSw; have c0 := cell_later hSw HC.out.1; have c3 := cell_later hSw HC.out.2; clear hSw; go_simp) <;> with_reducible rfl)
    (try simp only [Act.put, List.setIfInBounds_toArray, List.set_cons_zero, List.set_cons_succ])
    refine any_take (i := 11) (v := ?_) rfl (by kernel_rfl) (by kernel_rfl) (by kernel_rfl) (by exact fun _ _ _ h => h) (by rfl) ?_ hS ?_
    rotate_left
    · ((intro W hSw; have c0 := cell_later hSw HC.out.1; have c3 := cell_later hSw HC.out.2; clear hSw; go_simp) <;> with_reducible rfl)
    (try simp only [Act.put, List.setIfInBounds_toArray, List.set_cons_zero, List.set_cons_succ])
    refine any_take (i := 12) (v := ?_) rfl (by kernel_rfl) (by kernel_rfl) (by kernel_rfl) (by exact fun _ _ _ h => h) (by rfl) ?_ hS ?_
    rotate_left
    · ((intro W hSw; have c0 := cell_later hSw HC.out.1; have c3 := cell_later hSw HC.out.2; clear hSw; go_simp) <;> with_reducible rfl)
    (try simp only [Act.put, List.setIfInBounds_toArray, List.set_cons_zero, List.set_cons_succ])
    refine any_take (i := 13) (v := ?_) rfl (by kernel_rfl) (by kernel_rfl) (by kernel_rfl) (by exact fun _ _ _ h => h) (by rfl) ?_ hS ?_
    rotate_left
    · ((intro W hSw; have c0 := cell_later hSw HC.out.1; have c3 := cell_later hSw HC.out.2; clear hSw; go_simp) <;> with_reducible rfl)
    (try simp only [Act.put, List.setIfInBounds_toArray, List.set_cons_zero, List.set_cons_succ])
    refine any_one (i := 14) rfl (by kernel_rfl) (fun K hK => ?_)
    go_simp
    refine (Calls.mono (wHas_any n _)) ?_
    rintro e x3 ⟨rfl, M3, hbR⟩
    have B3 : Below w.heap.size w x3 := below_then B1 hbR
    have M4 : Hid _ := M3
    clear hbR M3
    go_wp2_with fail
    refine hK.out _ _ (B3) ?_
    clear hK K hS
    have hS := B3
    refine any_one (i := 15) rfl (by kernel_rfl) (fun K hK => ?_)
    go_simp
    refine (Calls.mono (wContains_any _ _ _ _ n _ (HO.out.2.2.later B3) HI.out.2 M4.out)) ?_
    rintro e x4 ⟨rfl, hbR⟩
    have B4 : Below w.heap.size w x4 := below_then B3 hbR
    clear hbR
    go_wp2_with fail
    refine hK.out _ _ (B4) ?_
    clear hK K hS
    have hS := B4
    have EH : Hid (m.held.any (fun c => decide (c.1 = n)) = m.has n) := (rfl : m.held.any (fun c => decide (c.1 = n)) = m.has n)
    rw [EH.out]
    refine any_take (i := 16) (v := ?_) rfl (by kernel_rfl) (by kernel_rfl) (by kernel_rfl) (by exact fun _ _ _ h => h) (by rfl) ?_ hS ?_
    rotate_left
    · ((intro W hSw; skip; clear hSw; go_simp) <;> with_reducible rfl)
    (try simp only [Act.put, List.setIfInBounds_toArray, List.set_cons_zero, List.set_cons_succ])
    refine any_take (i := 17) (v := ?_) rfl (by kernel_rfl) (by kernel_rfl) (by kernel_rfl) (by exact fun _ _ _ h => h) (by rfl) ?_ hS ?_
    rotate_left
    · ((intro W hSw; skip; clear hSw; go_simp) <;> with_reducible rfl)
    (try simp only [Act.put, List.setIfInBounds_toArray, List.set_cons_zero, List.set_cons_succ])
    refine any_take (i := 18) (v := ?_) rfl (by kernel_rfl) (by kernel_rfl) (by kernel_rfl) (by exact fun _ _ _ h => h) (by rfl) ?_ hS ?_
    rotate_left
    · ((intro W hSw; skip; clear hSw; go_simp) <;> with_reducible rfl)
    (try simp only [Act.put, List.setIfInBounds_toArray, List.set_cons_zero, List.set_cons_succ])
    refine wpAnyH_done (by kernel_rfl) ?_ _
    go_wp2
    go_ret
    exact ⟨by simp, B4⟩
/-- the one that waits the longest is told -/
def Wn.next (m : Wn) : Wn := { m with wait := m.wait.tail, nows := m.nows - ((m.wait.head?.map (fun c => if c.2.1 then 1 else 0)).getD 0) }
set_option maxHeartbeats 400000 in
theorem wdNext_none (g : Nat) (p : Wq) (m : Wn) (w : World) (h : (wd g p m).Ok w) (h0 : m.wait = []) :
    Calls Try.prog 12 #[.pointer (some ⟨g, 0, none⟩)] w fun e w' => e = .returned (.tuple #[.int .i64 0, .bool false]) ∧ w' = w := by
  obtain ⟨hn, hv, wv, hB, -, hW⟩ := id h.holds
  have c4 := blk_at hB 4
  simp only [List.getElem?_cons_succ, List.getElem?_cons_zero] at c4
  rw [h0] at hW
  obtain ⟨a, c, rfl, -, -, -⟩ := hW.cell kCmd_ok
  simp only [List.length_nil] at c4
  clear hB hn hW h h0
  go_enter Try.func12, Try.ntmps12
  go_wp2
  go_ret2
  exact ⟨rfl, rfl⟩
set_option maxHeartbeats 2000000 in
theorem wdNext_false (g : Nat) (p : Wq) (m : Wn) (n : BitVec 32) (id : Int) (r : List Cm) (w : World) (h : (wd g p m).Ok w) (hw : m.Wf) (h0 : m.wait = (n, false, id) :: r) :
    Calls Try.prog 12 #[.pointer (some ⟨g, 0, none⟩)] w fun e w' => e = .returned (.tuple #[.int .i64 id, .bool true]) ∧ Step w w' (wd g p m) (wd g p m.next) := by
  obtain ⟨hv, wv, A, H⟩ := wd_put h
  have hwt := A.wait
  rw [h0] at hwt
  obtain ⟨b, off, cap, hv2, hcap, hq, hc, T1, T2⟩ := hwt.tail kCmd_ok
  have l2 : r.length ≤ 20000 := by have := hw.few; rw [h0] at this; simp at this; omega
  have en : m.next.nows = m.nows := by unfold Wn.next; rw [h0]; rfl
  have ew : m.next.wait = r := by unfold Wn.next; rw [h0]; rfl
  have bn : Below w.heap.size w (w.alloc (.cells #[.int .u32 (n.toNat : Int), .bool false, .int .i64 id] 54)) := (Below.refl _ _).alloc (Nat.le_refl _) _
  have N := Blk.new' w 54 [.int .u32 (n.toNat : Int), .bool false, .int .i64 id]
  have hB1 := A.blk.laterB bn
  -- what is done, whatever the tail's address
  have F : ∀ tv, GSl kCmd w tv p.2 r → Step w ((w.alloc (.cells #[.int .u32 (n.toNat : Int), .bool false, .int .i64 id] 54)).setCell ⟨g, 4, none⟩ tv) (wd g p m) (wd g p m.next) := by
    intro tv ht
    have H2 : WdPut g p p m w (w.alloc (.cells #[.int .u32 (n.toNat : Int), .bool false, .int .i64 id] 54)) hv wv hv tv m.next.held m.next.wait :=
      ⟨H.ok, H.blk, (turned_below bn).mono (fun _ h => h.elim), H.held.later bn, by rw [ew]; exact ht.later bn, H.or1, H.or2, H.ne⟩
    refine H2.done (m' := m.next) ?_ ?_
    · have := (H2.blk5.set 4 tv)
      rw [en]
      exact this
    · exact grown_set _ g 4 tv
  have HF : Hid _ := And.intro F (And.intro T1 T2)
  have x0 : w.cell? ⟨b, off, none⟩ = some (.int .u32 (n.toNat : Int)) := hc 0 (by simp [kCmd])
  have x1 : w.cell? ⟨b, off + 1, none⟩ = some (.bool false) := hc 1 (by simp [kCmd])
  have x2 : w.cell? ⟨b, off + 2, none⟩ = some (.int .i64 id) := hc 2 (by simp [kCmd])
  have y4 := blk_at A.blk 4
  have k4 := blk_at hB1 4
  have k5 := blk_at hB1 5
  have f4 := blk_frozen hB1 4
  have f5 := blk_frozen hB1 5
  have z1 := blk_at N 1
  have z2 := blk_at N 2
  simp only [List.getElem?_cons_succ, List.getElem?_cons_zero] at y4 k4 k5 z1 z2
  rw [hv2] at y4 k4
  have g1 : g ≠ w.heap.size := by have := A.blk.lt; omega
  have q1 : (1 : Int) ≤ (cap : Int) := by omega
  have q2 : (1 : Int) ≤ (r.length : Int) + 1 := by omega
  have q3 : (r.length : Int) + 1 ≤ (cap : Int) := by omega
  have q4 : ¬ (r.length : Int) + 1 = 0 := by omega
  clear A H hwt hc T1 T2 bn N hB1 F h0 en ew h hw
  by_cases hc1 : cap = 1
  · subst hc1
    have hr : r = [] := List.eq_nil_of_length_eq_zero (by omega)
    subst hr
    have HT : Hid _ := HF.out.1 _ (HF.out.2.2 rfl)
    clear HF
    go_enter Try.func12, Try.ntmps12
    go_wp2
    go_ret2
    exact ⟨rfl, HT.out⟩
  · have HT : Hid _ := HF.out.1 _ HF.out.2.1
    clear HF
    go_enter Try.func12, Try.ntmps12
    go_wp2
    go_ret2
    exact ⟨rfl, HT.out⟩
set_option maxHeartbeats 2000000 in
theorem wdNext_true (g : Nat) (p : Wq) (m : Wn) (n : BitVec 32) (id : Int) (r : List Cm) (w : World) (h : (wd g p m).Ok w) (hw : m.Wf) (h0 : m.wait = (n, true, id) :: r) :
    Calls Try.prog 12 #[.pointer (some ⟨g, 0, none⟩)] w fun e w' => e = .returned (.tuple #[.int .i64 id, .bool true]) ∧ Step w w' (wd g p m) (wd g p m.next) := by
  obtain ⟨hv, wv, A, H⟩ := wd_put h
  have hwt := A.wait
  rw [h0] at hwt
  obtain ⟨b, off, cap, hv2, hcap, hq, hc, T1, T2⟩ := hwt.tail kCmd_ok
  have l2 : r.length ≤ 20000 := by have := hw.few; rw [h0] at this; simp at this; omega
  have en : m.next.nows = m.nows - 1 := by unfold Wn.next; rw [h0]; rfl
  have ew : m.next.wait = r := by unfold Wn.next; rw [h0]; rfl
  have bn : Below w.heap.size w (w.alloc (.cells #[.int .u32 (n.toNat : Int), .bool true, .int .i64 id] 54)) := (Below.refl _ _).alloc (Nat.le_refl _) _
  have N := Blk.new' w 54 [.int .u32 (n.toNat : Int), .bool true, .int .i64 id]
  have hB1 := A.blk.laterB bn
  have hpos : 0 < m.nows := by rw [hw.nows, h0]; simp
  -- what is done, whatever the tail's address
  have F : ∀ tv, GSl kCmd w tv p.2 r → Step w (((w.alloc (.cells #[.int .u32 (n.toNat : Int), .bool true, .int .i64 id] 54)).setCell ⟨g, 4, none⟩ tv).setCell ⟨g, 5, none⟩ (.int .i64 ((m.nows : Int) - 1))) (wd g p m) (wd g p m.next) := by
    intro tv ht
    have H2 : WdPut g p p m w (w.alloc (.cells #[.int .u32 (n.toNat : Int), .bool true, .int .i64 id] 54)) hv wv hv tv m.next.held m.next.wait :=
      ⟨H.ok, H.blk, (turned_below bn).mono (fun _ h => h.elim), H.held.later bn, by rw [ew]; exact ht.later bn, H.or1, H.or2, H.ne⟩
    refine H2.done (m' := m.next) ?_ ?_
    · have := ((H2.blk5.set 4 tv).set 5 (.int .i64 ((m.nows : Int) - 1)))
      have e1 : ((m.nows - 1 : Nat) : Int) = (m.nows : Int) - 1 := by omega
      rw [← e1] at this ⊢
      rw [en]
      exact this
    · exact grown_trans (grown_set _ g 4 tv) (grown_set _ g 5 _)
  have HF : Hid _ := And.intro F (And.intro T1 T2)
  have x0 : w.cell? ⟨b, off, none⟩ = some (.int .u32 (n.toNat : Int)) := hc 0 (by simp [kCmd])
  have x1 : w.cell? ⟨b, off + 1, none⟩ = some (.bool true) := hc 1 (by simp [kCmd])
  have x2 : w.cell? ⟨b, off + 2, none⟩ = some (.int .i64 id) := hc 2 (by simp [kCmd])
  have y4 := blk_at A.blk 4
  have k4 := blk_at hB1 4
  have k5 := blk_at hB1 5
  have f4 := blk_frozen hB1 4
  have f5 := blk_frozen hB1 5
  have z1 := blk_at N 1
  have z2 := blk_at N 2
  simp only [List.getElem?_cons_succ, List.getElem?_cons_zero] at y4 k4 k5 z1 z2
  rw [hv2] at y4 k4
  have g1 : g ≠ w.heap.size := by have := A.blk.lt; omega
  have q1 : (1 : Int) ≤ (cap : Int) := by omega
  have q2 : (1 : Int) ≤ (r.length : Int) + 1 := by omega
  have q3 : (r.length : Int) + 1 ≤ (cap : Int) := by omega
  have q4 : ¬ (r.length : Int) + 1 = 0 := by omega
  have q5 : -9223372036854775808 ≤ (m.nows : Int) - 1 ∧ (m.nows : Int) - 1 ≤ 9223372036854775807 := by have := hw.now64; omega
  have s5 : (((w.alloc (.cells #[.int .u32 (n.toNat : Int), .bool true, .int .i64 id] 54)).setCell ⟨g, 4, none⟩ wv)).heap.size = w.heap.size + 1 := by simp [World.setCell]
  generalize (m.nows : Int) = nz at *
  clear A H hwt hc T1 T2 bn N hB1 F h0 en ew h hpos hw s5
  by_cases hc1 : cap = 1
  · subst hc1
    have hr : r = [] := List.eq_nil_of_length_eq_zero (by omega)
    subst hr
    have HT : Hid _ := HF.out.1 _ (HF.out.2.2 rfl)
    clear HF
    go_enter Try.func12, Try.ntmps12
    go_wp2
    go_ret2
    exact ⟨rfl, HT.out⟩
  · have HT : Hid _ := HF.out.1 _ HF.out.2.1
    clear HF
    go_enter Try.func12, Try.ntmps12
    go_wp2
    go_ret2
    exact ⟨rfl, HT.out⟩
end Go.Proofs.Ytmbnhagfihphiaa
