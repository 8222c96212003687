/- extent: an image behind a script. -/
import Derived.Test.YtmkacgdbmojomaaXEr7
namespace Go.Proofs.Ytmkacgdbmojomaa
open Go.RowKit
set_option linter.unusedVariables false
set_option linter.unusedSimpArgs false
set_option maxRecDepth 8000

/-- the image behind a script -/
def plM (n : Nat) (l : List Op5) : Im := l.foldl st5 (im0 n)
theorem plM_wf {n : Nat} (h : 1 ≤ n ∧ n ≤ 256) (l : List Op5) : (plM n l).Wf := by
  have h0 : (im0 n).Wf := ⟨h.1, h.2, fun k l hk => by cases hk⟩
  unfold plM
  generalize im0 n = m at h0
  induction l generalizing m with
  | nil => exact h0
  | cons o l ih => exact ih _ (st5_wf h0 o)
theorem plM_snoc (n : Nat) (l : List Op5) (o : Op5) : plM n (l ++ [o]) = st5 (plM n l) o := by unfold plM; rw [List.foldl_append]; rfl
theorem sep_none (w : World) : Sep w.heap.size [] w := ⟨(fun o h => by cases h), (fun o h => by cases h), .nil, Nat.le_refl _⟩
set_option maxHeartbeats 16000000 in
theorem played_any (n : Nat) (hn : 1 ≤ n ∧ n ≤ 256) (a : Option Addr) (len cap : Nat) (l : List Op5) (w : World) (hl : l.length = len) (hlen : len ≤ 140737488355328) (hc : OArgs w a l) :
    Calls Try.prog 22 #[.int .i64 (n : Int), .slice a len cap] w fun e w' => ∃ g b, e = .returned (.pointer (some ⟨g, 0, none⟩)) ∧ Sep w.heap.size [im g b (plM n (l.take 40))] w' ∧ Below w.heap.size w w' := by
  subst hl
  have HC : Hid _ := And.intro hc (And.intro hn hlen)
  have hlI : (l.length : Int) ≤ 140737488355328 := by omega
  clear hc hlen
  go_enter Try.func22, Try.ntmps22
  go_wp2_with fail
  refine (Calls.mono (imNew_yes n w hn)) ?_
  rintro e w1 ⟨g, b, rfl, hg, hb, hok, b1⟩
  have hS1 : Sep w.heap.size [im g b (im0 n)] w1 := (sep_none w).fresh b1 hok (fun k hk => by
    rcases hk with hk | hk
    · rw [show k = b by simpa [im] using hk]; exact hb
    · rw [show k = g by simpa [im] using hk]; exact hg)
  have H1 : Hid _ := And.intro hS1 b1
  clear hS1 b1 hok hg hb
  go_wp2_with fail
  refine (Calls.mono (riNew_yes n w1 hn)) ?_
  rintro e w2 ⟨r, lb, rfl, hok, b2, hr, hlb⟩
  have hS2 : Sep w.heap.size [ri r lb [] (im0 n), im g b (im0 n)] w2 := H1.out.1.fresh b2 hok (fun k hk => by
    rcases hk with hk | hk
    · rw [show k = lb by simpa [ri] using hk]; exact hlb
    · rw [show k = r by simpa [ri] using hk]; exact hr)
  have H2 : Hid _ := And.intro hS2.swap (below_then H1.out.2 b2)
  clear hS2 b2 hok hr hlb H1
  go_wp2_with fail
  go_loopw [9] (fun p wr => ∃ (k : Nat) (V : List Nat), p = .int .i64 k ∧ k ≤ l.length ∧ k ≤ 40 ∧ Sep w.heap.size [im g b (plM n (l.take k)), ri r lb V (plM n (l.take k))] wr ∧ Below w.heap.size w wr) (fun p _ => 40 - (intOf p).toNat)
  case atStart => exact ⟨0, [], rfl, Nat.zero_le _, Nat.zero_le _, H2.out.1, H2.out.2⟩
  case round =>
    obtain ⟨k, V, rfl, hk, hk2, hS, hbl⟩ := hrel
    by_cases hlt : k < l.length
    · have q1 : (k : Int) < (l.length : Int) := by omega
      by_cases hlt2 : k < 40
      · have q2 : (k : Int) < 40 := by omega
        obtain ⟨p, off, rfl, ab, bc, al, lc, hO⟩ : ∃ p off, a = some ⟨p, off, none⟩ ∧ ∃ ab bc al lc, OpAt wr p off k l[k] ab bc al lc := by
          rcases HC.out.1 with e | ⟨p, off, e, h⟩
          · rw [e] at hlt; simp at hlt
          · obtain ⟨ab, bc, al, lc, h1⟩ := h k hlt
            exact ⟨p, off, e, ab, bc, al, lc, h1.later hbl⟩
        have htk : plM n (l.take (k + 1)) = st5 (plM n (l.take k)) l[k] := by rw [← List.take_append_getElem hlt, plM_snoc]
        generalize l[k] = o at *
        obtain ⟨c0, c1, c2, c3, c4, hW⟩ := hO
        have HS : Hid _ := step_any g b r lb V (plM n (l.take k)) o ab bc al lc w.heap.size wr hS (plM_wf HC.out.2.1 _) hW
        unfold opV at HS
        have HT : Hid _ := And.intro htk (And.intro hbl hlt2)
        clear htk hS hbl hW
        go_wp2_with fail
        refine (Calls.mono HS.out) ?_
        rintro e w3 ⟨rfl, V', hS3, hb3⟩
        rw [← HT.out.1] at hS3
        have F : Hid _ := And.intro hS3 (HT.out.2.1.trans hb3)
        clear hS3 hb3 HS c0 c1 c2 c3 c4
        go_wp2
        go_roundw
        case rel => exact ⟨k + 1, V', by first | rfl | go_num, by omega, by omega, F.out.1, F.out.2⟩
        case measure => simp [intOf]; omega
      · obtain rfl : k = 40 := by omega
        have q2 : ¬ ((40 : Int) < 40) := by omega
        have F : Hid _ := And.intro hS hbl
        clear hS hbl
        go_wp2
        go_ret
        exact ⟨g, rfl, ⟨b, ⟨fun o ho => F.out.1.each o (by rw [List.mem_singleton.1 ho]; simp), fun o ho => F.out.1.new o (by rw [List.mem_singleton.1 ho]; simp), List.pairwise_singleton _ _, F.out.1.base⟩⟩, F.out.2⟩
    · obtain rfl : k = l.length := by omega
      have q1 : ¬ ((l.length : Int) < (l.length : Int)) := by omega
      have e40 : l.take 40 = l.take l.length := by rw [List.take_length, List.take_of_length_le hk2]
      have F : Hid _ := And.intro hS (And.intro hbl e40)
      clear hS hbl e40
      go_wp2
      go_ret
      exact ⟨g, rfl, ⟨b, by rw [F.out.2.2]; exact ⟨fun o ho => F.out.1.each o (by rw [List.mem_singleton.1 ho]; simp), fun o ho => F.out.1.new o (by rw [List.mem_singleton.1 ho]; simp), List.pairwise_singleton _ _, F.out.1.base⟩⟩, F.out.2.1⟩
end Go.Proofs.Ytmkacgdbmojomaa

