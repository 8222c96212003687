/- Tables: Put, Check, Len, Forget, by what is kept. -/
import Derived.Test.YtkcbbaanlkpeiaaXDd24
namespace Go.Proofs.Ytkcbbaanlkpeiaa
open Go.RowKit
set_option linter.unusedVariables false
set_option linter.unusedSimpArgs false
set_option maxRecDepth 4000

/-- what is kept, of each nexus -/
abbrev Ms := List (Int × List An)
def fsm (fs : List Nx) : Ms := fs.map (fun f => (f.1, f.2.2))
def frB (m : Int × List An) (n : Int) : Bool := decide (m.1 < n) && m.2.all (fun a => decide (a.2.1 ≠ n))
def putE (ms : Ms) (q n E : Int) : Int := if canP q n = true then (if E = 0 then (if frB (ms.getD q.toNat (0, [])) n = true then 0 else 5) else E) else 1
def putTo (ms : Ms) (q n : Int) (bs : List (BitVec 8)) (e : Int) : Ms := if e = 0 then ms.set q.toNat (mput (ms.getD q.toNat (0, [])) (q, n, str bs)) else ms
theorem fsm_at {fs : List Nx} {q : Nat} {f : Nx} (h : fs[q]? = some f) : (fsm fs).getD q (0, []) = (f.1, f.2.2) := by
  unfold fsm
  rw [List.getD, List.getElem?_map, h]
  rfl
theorem fsm_set (fs : List Nx) (q : Nat) (a : Int) (v : Value) (l : List An) : fsm (fs.set q (a, v, l)) = (fsm fs).set q (a, l) := by
  unfold fsm
  rw [List.map_set]
theorem canP_nat {q n : Int} (h : canP q n = true) : ∃ k : Nat, q = (k : Int) ∧ k < 16 ∧ 1 ≤ n ∧ n ≤ 1152921504606846976 := by
  unfold canP at h
  simp only [Bool.and_eq_true, decide_eq_true_eq] at h
  exact ⟨q.toNat, by omega, by omega, h.2.2.1, h.2.2.2⟩
theorem TbP.row {w : World} {g : Nat} {fs : List Nx} (h : TbP w g fs) {k : Nat} (hk : k < 16) : ∃ fl v l, fs[k]? = some (fl, v, l) := by
  have : k < fs.length := by rw [h.len]; exact hk
  exact ⟨_, _, _, List.getElem?_eq_getElem this⟩
/-- Check, where the answer is kept -/
theorem tbCheck_done (g k : Nat) (fs : List Nx) (n : Int) (fl : Int) (v : Value) (l : List An) (bs : List (BitVec 8)) (w : World) (h : TbP w g fs) (hf : fs[k]? = some (fl, v, l)) (hk : k < 16) (hc : canP k n = true) (ha : ((k : Int), n, str bs) ∈ l) (hb : bs.length ≤ 5000) :
    Calls Try.prog 18 #[.pointer (some ⟨g, 0, none⟩), .int .i64 k, .int .i64 n] w fun e w' => ∃ x c, e = .returned (.tuple #[.int .i64 1, .agg #[.int .i64 (grR bs).1, .int .i64 (grR bs).2.1, .int .i64 (grR bs).2.2.1, .int .i64 (grR bs).2.2.2.1, .slice x (grR bs).2.2.2.2.length c]]) ∧ Own w' w.heap.size (.slice x (grR bs).2.2.2.2.length c) (grR bs).2.2.2.2 ∧ Below w.heap.size w w' :=
  check_done g k n fl v l bs w hk hc (h.mem hf) (from_mem (h.rise _ (List.mem_of_getElem? hf)) ha) (by omega)
theorem tbCheck_none (g k : Nat) (fs : List Nx) (n : Int) (fl : Int) (v : Value) (l : List An) (w : World) (h : TbP w g fs) (hf : fs[k]? = some (fl, v, l)) (hk : k < 16) (hc : canP k n = true) (hno : ∀ a ∈ l, a.2.1 ≠ n) :
    Calls Try.prog 18 #[.pointer (some ⟨g, 0, none⟩), .int .i64 k, .int .i64 n] w fun e w' => e = .returned (.tuple #[.int .i64 (if n ≤ fl then 2 else 0), zeroR]) ∧ Below w.heap.size w w' :=
  check_none g k n fl v l w hk hc (h.mem hf) (fun e => from_not hno (by obtain ⟨_, _, _, h1, _⟩ := canP_nat hc; omega) e.2)
theorem tb_chk {g k : Nat} {fs : List Nx} {n fl : Int} {v : Value} {l : List An} {w : World} (h : TbP w g fs) (hf : fs[k]? = some (fl, v, l)) (hk : k < 16) (hc : canP k n = true) :
    (frB (fl, l) n = true → ChkC g k n w (fun z => z = 0)) ∧ (frB (fl, l) n = false → ChkC g k n w (fun z => z ≠ 0)) := by
  constructor
  · intro hfr W hW
    unfold frB at hfr
    simp only [Bool.and_eq_true, decide_eq_true_eq, List.all_eq_true] at hfr
    refine (tbCheck_none g k fs n fl v l W ((tb_ok h).later hW).holds hf hk hc hfr.2).mono ?_
    rintro e w' ⟨rfl, hb⟩
    rw [if_neg (by omega)]
    exact ⟨0, 0, 0, 0, 0, none, 0, 0, rfl, rfl, hb⟩
  · intro hfr W hW
    by_cases hin : ∃ a ∈ l, a.2.1 = n
    · obtain ⟨a, ha, rfl⟩ := hin
      obtain ⟨bs, e1, e2⟩ := h.byt _ (List.mem_of_getElem? hf) a ha
      have e3 := h.place k _ hf a ha
      have ha' : ((k : Int), a.2.1, str bs) ∈ l := by rw [← e1, ← e3]; exact ha
      refine (tbCheck_done g k fs a.2.1 fl v l bs W ((tb_ok h).later hW).holds hf hk hc ha' e2).mono ?_
      rintro e w' ⟨x, c, rfl, -, hb⟩
      exact ⟨1, _, _, _, _, x, _, c, rfl, by decide, hb⟩
    · have hno : ∀ a ∈ l, a.2.1 ≠ n := fun a ha e => hin ⟨a, ha, e⟩
      have hle : n ≤ fl := by
        unfold frB at hfr
        rw [Bool.and_eq_false_iff] at hfr
        rcases hfr with e | e
        · simp only [decide_eq_false_iff_not] at e; omega
        · exfalso
          have : l.all (fun a => decide (a.2.1 ≠ n)) = true := by
            rw [List.all_eq_true]
            intro a ha
            exact decide_eq_true (hno a ha)
          rw [this] at e; cases e
      refine (tbCheck_none g k fs n fl v l W ((tb_ok h).later hW).holds hf hk hc hno).mono ?_
      rintro e w' ⟨rfl, hb⟩
      rw [if_pos hle]
      exact ⟨2, 0, 0, 0, 0, none, 0, 0, rfl, by decide, hb⟩
theorem tbPut_any (g : Nat) (fs : List Nx) (q n ra rb rc rd : Int) (rx : Option Addr) (cp : Nat) (dl : List (BitVec 8)) (w : World) (h : (tb g fs).Ok w) (hdl : dl.length ≤ 140737488351232) (hdc : dl.length ≤ cp) (hdn : rx = none → cp = 0) (hdr : Row w rx dl) :
    Calls Try.prog 15 #[.pointer (some ⟨g, 0, none⟩), .int .i64 q, .int .i64 n, .agg #[.int .i64 ra, .int .i64 rb, .int .i64 rc, .int .i64 rd, .slice rx dl.length cp]] w fun e w' => ∃ fs', e = .returned (.int .i64 (putE (fsm fs) q n (prE ra rb rc rd dl.length))) ∧ Step w w' (tb g fs) (tb g fs') ∧ fsm fs' = putTo (fsm fs) q n (prB ra rb rc rd dl) (putE (fsm fs) q n (prE ra rb rc rd dl.length)) := by
  have hP : TbP w g fs := h.holds
  by_cases hcan : canP q n = true
  · by_cases hE : prE ra rb rc rd dl.length = 0
    · obtain ⟨k, rfl, hk, hn1, hn2⟩ := canP_nat hcan
      obtain ⟨fl, v, l, hf⟩ := hP.row hk
      have hm := fsm_at hf
      simp only at hm
      by_cases hfr : frB (fl, l) n = true
      · have e0 : putE (fsm fs) k n (prE ra rb rc rd dl.length) = 0 := by
          unfold putE; rw [if_pos hcan, if_pos hE, Int.toNat_natCast, hm, if_pos hfr]
        refine (dput_done g k fs fl v l n ra rb rc rd rx cp dl w hP hf hcan hE hdl hdc hdn hdr ((tb_chk hP hf hk hcan).1 hfr) hk).mono ?_
        rintro e w' ⟨rfl, v', hpg⟩
        have hmq := List.mem_of_getElem? hf
        have hfr' := hfr
        unfold frB at hfr'
        simp only [Bool.and_eq_true, decide_eq_true_eq, List.all_eq_true] at hfr'
        refine ⟨_, by rw [e0], tb_put hP hf hpg (mput_rise (hP.rise _ hmq) hfr'.2) (mput_len (hP.most _ hmq)) (fun a ha => ?_) (fun a ha => ?_), ?_⟩
        · rcases mput_mem ha with rfl | ha
          · rfl
          · exact hP.place k _ hf a ha
        · rcases mput_mem ha with rfl | ha
          · exact ⟨_, rfl, prB_most _ _ _ _ _ hE⟩
          · exact hP.byt _ hmq a ha
        · rw [fsm_set, e0]
          unfold putTo
          rw [if_pos rfl, Int.toNat_natCast, hm]
      · have hfr : frB (fl, l) n = false := by simpa using hfr
        have e0 : putE (fsm fs) k n (prE ra rb rc rd dl.length) = 5 := by
          unfold putE; rw [if_pos hcan, if_pos hE, Int.toNat_natCast, hm, hfr]; rfl
        refine (dput_state g k n ra rb rc rd rx cp dl w hcan hE hdl hdc hdn hdr ((tb_chk hP hf hk hcan).2 hfr)).mono ?_
        rintro e w' ⟨rfl, hb⟩
        exact ⟨fs, by rw [e0], Step.quiet h hb, by rw [e0]; rfl⟩
    · have e0 : putE (fsm fs) q n (prE ra rb rc rd dl.length) = prE ra rb rc rd dl.length := by
        unfold putE; rw [if_pos hcan, if_neg hE]
      refine (dput_bad g q n ra rb rc rd rx cp dl w hcan hE hdl hdc hdn hdr).mono ?_
      rintro e w' ⟨rfl, hb⟩
      exact ⟨fs, by rw [e0], Step.quiet h hb, by rw [e0]; unfold putTo; rw [if_neg hE]⟩
  · have hcan : canP q n = false := by simpa using hcan
    have e0 : putE (fsm fs) q n (prE ra rb rc rd dl.length) = 1 := by unfold putE; rw [hcan]; rfl
    refine (dput_arg g q n ra rb rc rd rx cp dl w hcan).mono ?_
    rintro e w' ⟨rfl, hb⟩
    exact ⟨fs, by rw [e0], Step.quiet h hb, by rw [e0]; rfl⟩
set_option maxHeartbeats 1000000 in
theorem tbLen_any (g k : Nat) (fs : List Nx) (fl : Int) (v : Value) (l : List An) (w : World) (h : TbP w g fs) (hf : fs[k]? = some (fl, v, l)) (hk : k < 16) :
    Calls Try.prog 19 #[.pointer (some ⟨g, 0, none⟩), .int .i64 k] w fun e w' => e = .returned (.int .i64 l.length) ∧ w = w' := by
  obtain ⟨va, vc, hv, -, -⟩ := (h.own _ (List.mem_of_getElem? hf)).open
  simp only at hv
  have hc := (h.mem hf).list
  rw [hv] at hc
  have HS : Hid _ := ddsize_any g (k * 2 + 1) va l.length vc w hc
  have HN : Hid _ := isNexus_any k w
  rw [show decide (0 ≤ (k : Int) ∧ (k : Int) < 16) = true by rw [decide_eq_true_eq]; omega] at HN
  have q1 : (k : Int) < 16 := by omega
  clear h hf hv hc
  go_enter Try.func19, Try.ntmps19
  go_wp2_with fail
  refine (Calls.mono HN.out) ?_
  rintro e w1 ⟨rfl, rfl⟩
  go_wp2_with fail
  refine (Calls.mono HS.out) ?_
  rintro e w1 ⟨rfl, rfl⟩
  go_wp2
  go_ret
  exact ⟨rfl, rfl⟩
set_option maxHeartbeats 1000000 in
theorem tbForget_any (g k : Nat) (fs : List Nx) (fl : Int) (v : Value) (l : List An) (w : World) (h : (tb g fs).Ok w) (hf : fs[k]? = some (fl, v, l)) (hk : k < 16) :
    Calls Try.prog 17 #[.pointer (some ⟨g, 0, none⟩), .int .i64 k] w fun e w' => e = .returned (.int .i64 l.length) ∧ Step w w' (tb g fs) (tb g (fs.set k (0, .slice none 0 0, []))) := by
  have hP : TbP w g fs := h.holds
  have HL : Hid _ := tbLen_any g k fs fl v l w hP hf hk
  have HN : Hid _ := isNexus_any k w
  rw [show decide (0 ≤ (k : Int) ∧ (k : Int) < 16) = true by rw [decide_eq_true_eq]; omega] at HN
  have q1 : (k : Int) < 16 := by omega
  have c0 := (hP.mem hf).floor
  have c1 := (hP.mem hf).list
  have f0 := blk_frozen hP.blk (k * 2)
  have f1 := blk_frozen hP.blk (k * 2 + 1)
  have hm : Hid (Step w ((w.setCell ⟨g, k * 2, none⟩ (.int .i64 0)).setCell ⟨g, k * 2 + 1, none⟩ (.slice none 0 0)) (tb g fs) (tb g (fs.set k (0, .slice none 0 0, [])))) := by
    have hB := (hP.blk.set (k * 2) (.int .i64 0)).set (k * 2 + 1) (.slice none 0 0)
    rw [List.set_comm _ _ (by omega)] at hB
    refine tb_put hP hf ⟨?_, hB, AOwn.nil _, fun j hj => by cases hj⟩ List.Pairwise.nil (by simp) (fun a ha => by cases ha) (fun a ha => by cases ha)
    exact ⟨rfl, rfl, rfl, by simp [World.setCell], fun j hj hn => by
      rw [setBlk_other (fun e => hn (.inr e)), setBlk_other (fun e => hn (.inr e))]⟩
  clear h hf hP
  go_enter Try.func17, Try.ntmps17
  go_wp2_with fail
  refine (Calls.mono HL.out) ?_
  rintro e w1 ⟨rfl, rfl⟩
  have hnn : (binOp .neq 24 (.pointer (some ⟨g, 0, none⟩)) (.pointer none)).run Try.prog w = .ok (.bool true) w := by first | rfl | kernel_rfl
  go_wp2_with fail
  refine (Calls.mono HN.out) ?_
  rintro e w1 ⟨rfl, rfl⟩
  go_wp2
  go_ret
  exact ⟨rfl, hm.out⟩
def nx0 : List Nx := List.replicate 16 (0, .slice none 0 0, [])
theorem nx0_at {i : Nat} {f : Nx} (h : nx0[i]? = some f) : f = (0, .slice none 0 0, []) := by
  unfold nx0 at h
  rw [List.getElem?_replicate] at h
  split at h
  · injection h with h; exact h.symm
  · cases h
theorem tbNew_ok (w : World) (g : Nat) (h : Blk w g 62 zero32) : (tb g nx0).Ok w := by
  have e : ∀ f ∈ nx0, f = (0, .slice none 0 0, []) := fun f hf => List.eq_of_mem_replicate hf
  refine tb_ok ⟨by simp [nx0], h, fun f hf => ?_, fun i j f f' hi hj _ k hk => ?_, fun f hf => ?_, fun f hf => ?_, fun i f hi a ha => ?_, fun f hf a ha => ?_⟩
  · rw [e f hf]; exact AOwn.nil _
  · rw [nx0_at hi] at hk; cases hk
  · rw [e f hf]; exact List.Pairwise.nil
  · rw [e f hf]; simp
  · rw [nx0_at hi] at ha; cases ha
  · rw [e f hf] at ha; cases ha
end Go.Proofs.Ytkcbbaanlkpeiaa

