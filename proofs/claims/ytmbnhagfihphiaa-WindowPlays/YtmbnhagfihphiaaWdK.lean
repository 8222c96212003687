/- The fixed calls of a window; a window that is not there. -/
import Derived.Test.YtmbnhagfihphiaaWd8
namespace Go.Proofs.Ytmbnhagfihphiaa
open Go.RowKit
set_option linter.unusedVariables false
set_option linter.unusedSimpArgs false
set_option maxRecDepth 8000

def kw0 : Wn := Wn.new 4294967295#32 2
def kw1 : Wn := kw0.come 0#32 5 false
def kw2 : Wn := kw1.come 1#32 6 false
def kw3 : Wn := kw2.come 4294967295#32 4 false
def kw4 : Wn := kw3.next
def kw5 : Wn := kw4.next
def kw6 : Wn := kw5.next
def kw7 : Wn := kw6.done
theorem kw0_inv : kw0.Inv 0 := new_inv _ _ (by omega) (by omega)
theorem kw1_inv : kw1.Inv 1 := (come_inv kw0_inv _ _ _).1
theorem kw2_inv : kw2.Inv 2 := (come_inv kw1_inv _ _ _).1
theorem kw3_inv : kw3.Inv 3 := (come_inv kw2_inv _ _ _).1
theorem kw4_inv : kw4.Inv 3 := (next_inv kw3_inv).1
theorem kw5_inv : kw5.Inv 3 := (next_inv kw4_inv).1
theorem kw6_inv : kw6.Inv 3 := (next_inv kw5_inv).1
theorem kw7_inv : kw7.Inv 3 := (done_inv kw6_inv).1
theorem kw_e0 : kw0.comeE 0#32 false = 0 := by kernel_rfl
theorem kw_e1 : kw1.comeE 1#32 false = 5 := by kernel_rfl
theorem kw_e2 : kw2.comeE 4294967295#32 false = 0 := by kernel_rfl
theorem kw_n3 : kw3.nextI = 4 ∧ kw3.nextB = true := ⟨by kernel_rfl, by kernel_rfl⟩
theorem kw_n4 : kw4.nextI = 5 ∧ kw4.nextB = true := ⟨by kernel_rfl, by kernel_rfl⟩
theorem kw_n5 : kw5.nextI = 0 ∧ kw5.nextB = false := ⟨by kernel_rfl, by kernel_rfl⟩
theorem kw_h6 : (kw6.high.toNat : Int) = 0 := by kernel_rfl
theorem kw_d6 : kw6.doneE = 0 := by kernel_rfl
theorem kw_h7 : (kw7.high.toNat : Int) = 1 := by kernel_rfl
theorem kw_b7 : (kw7.busy : Int) = 1 := by kernel_rfl
theorem wdHighB (g : Nat) (p : Wq) (m : Wn) (w : World) (h : (wd g p m).Ok w) (hw : m.Wf) :
    Calls Try.prog 17 #[.pointer (some ⟨g, 0, none⟩)] w fun e w' => e = .returned (.int .u32 (m.high.toNat : Int)) ∧ Below w.heap.size w w' :=
  (wdHigh_any g p m w h hw).mono (fun e w' ⟨h1, n, h2⟩ => ⟨h1, by rw [h2]; exact dn9 _ _ _⟩)
theorem wd_far {w : World} {g : Nat} {m : Wn} (h : w.heap.size ≤ g) : ∀ k ∈ (wd g (none, none) m).W, w.heap.size ≤ k := by
  intro k hk
  rcases (mem_wdW g k (none, none)).1 hk with rfl | hk | hk
  · exact h
  · cases hk
  · cases hk
set_option maxHeartbeats 4000000 in
theorem known19_any (w : World) : Calls Try.prog 9 #[] w fun e w' => e = .returned (.bool true) ∧ Below w.heap.size w w' := by
  go_enter Try.func9, Try.ntmps9
  go_wp2_with fail
  refine (wdNew_yes 4294967295#32 2 w (by omega) (by omega)).mono ?_
  rintro e w1 ⟨rfl, ok1, b1⟩
  have K1 : Hid _ := (⟨ok1, wd_far (Nat.le_refl _), b1⟩ : Mine w w1 (wd w.heap.size (none, none) kw0))
  clear ok1 b1
  generalize w.heap.size = g at *
  go_wp2_with fail
  refine (Calls.mono (wdCome_any g _ kw0 0#32 false 5 _ K1.out.ok (kw0_inv.wf (by omega)))) ?_
  rw [kw_e0]
  rintro e w2 ⟨rfl, p2, s2⟩
  have K2 : Hid _ := K1.out.step s2
  clear s2 K1
  go_wp2_with fail
  refine (Calls.mono (wdCome_any g _ kw1 1#32 false 6 _ K2.out.ok (kw1_inv.wf (by omega)))) ?_
  rw [kw_e1]
  rintro e w3 ⟨rfl, p3, s3⟩
  have K3 : Hid _ := K2.out.step s3
  clear s3 K2
  go_wp2_with fail
  refine (Calls.mono (wdCome_any g _ kw2 4294967295#32 false 4 _ K3.out.ok (kw2_inv.wf (by omega)))) ?_
  rw [kw_e2]
  rintro e w4 ⟨rfl, p4, s4⟩
  have K4 : Hid _ := K3.out.step s4
  clear s4 K3
  go_wp2_with fail
  refine (Calls.mono (wdNext_any g _ kw3 _ K4.out.ok (kw3_inv.wf (by omega)))) ?_
  rw [kw_n3.1, kw_n3.2]
  rintro e w5 ⟨rfl, s5⟩
  have K5 : Hid _ := K4.out.step s5
  clear s5 K4
  go_wp2_with fail
  refine (Calls.mono (wdNext_any g _ kw4 _ K5.out.ok (kw4_inv.wf (by omega)))) ?_
  rw [kw_n4.1, kw_n4.2]
  rintro e w6 ⟨rfl, s6⟩
  have K6 : Hid _ := K5.out.step s6
  clear s6 K5
  go_wp2_with fail
  refine (Calls.mono (wdNext_any g _ kw5 _ K6.out.ok (kw5_inv.wf (by omega)))) ?_
  rw [kw_n5.1, kw_n5.2]
  rintro e w7 ⟨rfl, s7⟩
  have K7 : Hid _ := K6.out.step s7
  clear s7 K6
  go_wp2_with fail
  refine (Calls.mono (wdHighB g _ kw6 _ K7.out.ok (kw6_inv.wf (by omega)))) ?_
  rw [kw_h6]
  rintro e w8 ⟨rfl, b8⟩
  have K8 : Hid _ := K7.out.later b8
  clear b8 K7
  go_wp2_with fail
  refine (Calls.mono (wdDone_any g _ kw6 _ K8.out.ok (kw6_inv.wf (by omega)))) ?_
  rw [kw_d6]
  rintro e w9 ⟨rfl, s9⟩
  have K9 : Hid _ := K8.out.step s9
  clear s9 K8
  go_wp2_with fail
  refine (Calls.mono (wdHighB g _ kw7 _ K9.out.ok (kw7_inv.wf (by omega)))) ?_
  rw [kw_h7]
  rintro e w10 ⟨rfl, b10⟩
  have K10 : Hid _ := K9.out.later b10
  clear b10 K9
  go_wp2_with fail
  refine (Calls.mono (wdBusy_any g _ kw7 _ K10.out.ok)) ?_
  rw [kw_b7]
  rintro e _ ⟨rfl, rfl⟩
  go_wp2
  go_ret
  exact ⟨rfl, K10.out.below⟩
theorem wdNil_Come (n : BitVec 32) (b : Bool) (id : Int) (w : World) : Calls Try.prog 10 #[.pointer none, .int .u32 (n.toNat : Int), .bool b, .int .i64 id] w fun e w' => e = .returned (.int .i64 2) ∧ w' = w := by
  go_enter Try.func10, Try.ntmps10
  go_wp2
  go_ret
  exact ⟨rfl, rfl⟩
theorem wdNil_Next (w : World) : Calls Try.prog 12 #[.pointer none] w fun e w' => e = .returned (.tuple #[.int .i64 0, .bool false]) ∧ w' = w := by
  go_enter Try.func12, Try.ntmps12
  go_wp2
  go_ret2
  exact ⟨rfl, rfl⟩
theorem wdNil_Done (w : World) : Calls Try.prog 14 #[.pointer none] w fun e w' => e = .returned (.int .i64 2) ∧ w' = w := by
  go_enter Try.func14, Try.ntmps14
  go_wp2
  go_ret
  exact ⟨rfl, rfl⟩
theorem wdNil_Expected (w : World) : Calls Try.prog 16 #[.pointer none] w fun e w' => e = .returned (.int .u32 0) ∧ w' = w := by
  go_enter Try.func16, Try.ntmps16
  go_wp2
  go_ret
  exact ⟨rfl, rfl⟩
theorem wdNil_Highest (w : World) : Calls Try.prog 17 #[.pointer none] w fun e w' => e = .returned (.int .u32 0) ∧ w' = w := by
  go_enter Try.func17, Try.ntmps17
  go_wp2
  go_ret
  exact ⟨rfl, rfl⟩
theorem wdNil_Held (w : World) : Calls Try.prog 19 #[.pointer none] w fun e w' => e = .returned (.int .i64 0) ∧ w' = w := by
  go_enter Try.func19, Try.ntmps19
  go_wp2
  go_ret
  exact ⟨rfl, rfl⟩
theorem wdNil_Busy (w : World) : Calls Try.prog 20 #[.pointer none] w fun e w' => e = .returned (.int .i64 0) ∧ w' = w := by
  go_enter Try.func20, Try.ntmps20
  go_wp2
  go_ret
  exact ⟨rfl, rfl⟩
set_option maxHeartbeats 4000000 in
theorem windowNil_walk (n : BitVec 32) (b : Bool) (w : World) : Calls Try.prog 6 #[.int .u32 (n.toNat : Int), .bool b] w fun e w' => e = .returned (.bool true) ∧ Below w.heap.size w w' := by
  have HK : Hid (∀ X, _) := known19_any
  have H1 : Hid (∀ X, _) := fun X => wdNil_Come n b 1 X
  go_enter Try.func6, Try.ntmps6
  go_wp2_with (first
    | (go_at_call 10; refine (Calls.mono (H1.out _)) ?_; rintro e _ ⟨rfl, rfl⟩)
    | (go_at_call 12; refine (Calls.mono (wdNil_Next _)) ?_; rintro e _ ⟨rfl, rfl⟩)
    | (go_at_call 14; refine (Calls.mono (wdNil_Done _)) ?_; rintro e _ ⟨rfl, rfl⟩)
    | (go_at_call 16; refine (Calls.mono (wdNil_Expected _)) ?_; rintro e _ ⟨rfl, rfl⟩)
    | (go_at_call 17; refine (Calls.mono (wdNil_Highest _)) ?_; rintro e _ ⟨rfl, rfl⟩)
    | (go_at_call 19; refine (Calls.mono (wdNil_Held _)) ?_; rintro e _ ⟨rfl, rfl⟩)
    | (go_at_call 20; refine (Calls.mono (wdNil_Busy _)) ?_; rintro e _ ⟨rfl, rfl⟩)
    | (go_at_call 9; refine (Calls.mono (HK.out _)) ?_; rintro e w9 ⟨rfl, b9⟩; have F : Hid _ := b9; clear b9))
  go_wp2
  go_ret
  exact ⟨rfl, F.out⟩
end Go.Proofs.Ytmbnhagfihphiaa
