/- Messages: their numbers, their length, whether they can be sent. -/
import Derived.Test.YtgjcgnmomdanaaaXEp3
import Derived.Test.YtgjcgnmomdanaaaXEn17
import Derived.Deep.CutRange
namespace Go.Proofs.Ytgjcgnmomdanaaa
open Go.RowKit Go.Shelf
set_option linter.unusedVariables false
set_option maxRecDepth 20000

/-- a message -/
structure Mg where
  kd : Int
  fr : Int
  too : Int
  tm : Int
  at_ : Int
  att : Int
  cm : Int
  rd : Int
  yes : Bool
  es : List Ent
  dt : List (BitVec 8)
theorem box11_below (w : World) (l : Array Value) (T : TypeId) : Below w.heap.size w (w.alloc (.cells l T)) := (Below.refl _ _).alloc (Nat.le_refl _) _
theorem eblk11 {w : World} {g : Nat} {T : TypeId} {a b c d e f h i j k l : Value} (M : Blk w g T [a, b, c, d, e, f, h, i, j, k, l]) : w.cell? ⟨g, 0, none⟩ = some a ∧ w.cell? ⟨g, 1, none⟩ = some b ∧ w.cell? ⟨g, 2, none⟩ = some c ∧ w.cell? ⟨g, 3, none⟩ = some d ∧ w.cell? ⟨g, 4, none⟩ = some e ∧ w.cell? ⟨g, 5, none⟩ = some f ∧ w.cell? ⟨g, 6, none⟩ = some h ∧ w.cell? ⟨g, 7, none⟩ = some i ∧ w.cell? ⟨g, 8, none⟩ = some j ∧ w.cell? ⟨g, 9, none⟩ = some k ∧ w.cell? ⟨g, 10, none⟩ = some l :=
  ⟨M.cell (by simp [maxLen]) 0 (by simp), M.cell (by simp [maxLen]) 1 (by simp), M.cell (by simp [maxLen]) 2 (by simp), M.cell (by simp [maxLen]) 3 (by simp), M.cell (by simp [maxLen]) 4 (by simp), M.cell (by simp [maxLen]) 5 (by simp), M.cell (by simp [maxLen]) 6 (by simp), M.cell (by simp [maxLen]) 7 (by simp), M.cell (by simp [maxLen]) 8 (by simp), M.cell (by simp [maxLen]) 9 (by simp), M.cell (by simp [maxLen]) 10 (by simp)⟩
set_option maxHeartbeats 2000000 in
theorem numbersOf_any (m : Mg) (ea : Option Addr) (ec : Nat) (da : Option Addr) (dc : Nat) (w : World) :
    Calls Try.prog 43 #[.agg #[.int .i64 m.kd, .int .i64 m.fr, .int .i64 m.too, .int .i64 m.tm, .int .i64 m.at_, .int .i64 m.att, .int .i64 m.cm, .int .i64 m.rd, .bool m.yes, .slice ea m.es.length ec, .slice da m.dt.length dc]] w fun r w' => r = .returned (.agg #[.int .i64 m.tm, .int .i64 m.at_, .int .i64 m.att, .int .i64 m.cm, .int .i64 m.rd]) ∧ Below w.heap.size w w' := by
  have b0 := box11_below w #[.int .i64 m.kd, .int .i64 m.fr, .int .i64 m.too, .int .i64 m.tm, .int .i64 m.at_, .int .i64 m.att, .int .i64 m.cm, .int .i64 m.rd, .bool m.yes, .slice ea m.es.length ec, .slice da m.dt.length dc] 25
  have M0 : Blk (w.alloc (.cells #[.int .i64 m.kd, .int .i64 m.fr, .int .i64 m.too, .int .i64 m.tm, .int .i64 m.at_, .int .i64 m.att, .int .i64 m.cm, .int .i64 m.rd, .bool m.yes, .slice ea m.es.length ec, .slice da m.dt.length dc] 25)) w.heap.size 25 [.int .i64 m.kd, .int .i64 m.fr, .int .i64 m.too, .int .i64 m.tm, .int .i64 m.at_, .int .i64 m.att, .int .i64 m.cm, .int .i64 m.rd, .bool m.yes, .slice ea m.es.length ec, .slice da m.dt.length dc] := Blk.new' w _ _
  have b1 := box11_below (w.alloc (.cells #[.int .i64 m.kd, .int .i64 m.fr, .int .i64 m.too, .int .i64 m.tm, .int .i64 m.at_, .int .i64 m.att, .int .i64 m.cm, .int .i64 m.rd, .bool m.yes, .slice ea m.es.length ec, .slice da m.dt.length dc] 25)) #[.int .i64 0, .int .i64 0, .int .i64 0, .int .i64 0, .int .i64 0] 83
  have M1 : Blk ((w.alloc (.cells #[.int .i64 m.kd, .int .i64 m.fr, .int .i64 m.too, .int .i64 m.tm, .int .i64 m.at_, .int .i64 m.att, .int .i64 m.cm, .int .i64 m.rd, .bool m.yes, .slice ea m.es.length ec, .slice da m.dt.length dc] 25)).alloc (.cells #[.int .i64 0, .int .i64 0, .int .i64 0, .int .i64 0, .int .i64 0] 83)) (w.alloc (.cells #[.int .i64 m.kd, .int .i64 m.fr, .int .i64 m.too, .int .i64 m.tm, .int .i64 m.at_, .int .i64 m.att, .int .i64 m.cm, .int .i64 m.rd, .bool m.yes, .slice ea m.es.length ec, .slice da m.dt.length dc] 25)).heap.size 83 [.int .i64 0, .int .i64 0, .int .i64 0, .int .i64 0, .int .i64 0] := Blk.new' _ _ _
  have hs : (w.alloc (.cells #[.int .i64 m.kd, .int .i64 m.fr, .int .i64 m.too, .int .i64 m.tm, .int .i64 m.at_, .int .i64 m.att, .int .i64 m.cm, .int .i64 m.rd, .bool m.yes, .slice ea m.es.length ec, .slice da m.dt.length dc] 25)).heap.size = w.heap.size + 1 := by first | simp | rfl
  rw [hs] at M1
  obtain ⟨c0, c1, c2, c3, c4, c5, c6, c7, c8, c9, c10⟩ := eblk11 (M0.laterB b1)
  obtain ⟨⟨u0, u1, u2, u3, u4⟩, f0, f1, f2, f3, f4⟩ := eblk5 M1
  have hS := eset5 M1 (.int .i64 m.tm) (.int .i64 m.at_) (.int .i64 m.att) (.int .i64 m.cm) (.int .i64 m.rd) w.heap.size w (below_then b0 b1) (by omega) (below_then b0 b1).size
  have F : Hid _ := hS
  clear hS b0 M0 M1 b1 hs
  go_enter Try.func43, Try.ntmps43
  go_upto_region 1 with fail
  generalize (w.alloc (.cells #[.int .i64 m.kd, .int .i64 m.fr, .int .i64 m.too, .int .i64 m.tm, .int .i64 m.at_, .int .i64 m.att, .int .i64 m.cm, .int .i64 m.rd, .bool m.yes, .slice ea m.es.length ec, .slice da m.dt.length dc] 25)).alloc (.cells #[.int .i64 0, .int .i64 0, .int .i64 0, .int .i64 0, .int .i64 0] 83) = w2 at *
  go_wp2
  generalize (((((w2.setCell ⟨w.heap.size + 1, 0, none⟩ (.int .i64 m.tm)).setCell ⟨w.heap.size + 1, 1, none⟩ (.int .i64 m.at_)).setCell ⟨w.heap.size + 1, 2, none⟩ (.int .i64 m.att)).setCell ⟨w.heap.size + 1, 3, none⟩ (.int .i64 m.cm)).setCell ⟨w.heap.size + 1, 4, none⟩ (.int .i64 m.rd)) = wf at *
  obtain ⟨⟨y0, y1, y2, y3, y4⟩, -⟩ := eblk5 F.out.1
  refine bodyPost_ret (v := .agg #[.int .i64 m.tm, .int .i64 m.at_, .int .i64 m.att, .int .i64 m.cm, .int .i64 m.rd]) (by simp [results, Try.results43, go_sem, y0, y1, y2, y3, y4]) rfl ?_
  exact ⟨rfl, F.out.2⟩
/-- how many bytes it would have, its first k entries -/
def Mg.lenK (m : Mg) : Nat → Nat
  | 0 => 45 + m.dt.length
  | k + 1 => m.lenK k + (9 + (m.es[k]?.getD (0, 0, [])).2.2.length)
theorem lenK_bd {m : Mg} (hd : m.dt.length ≤ 140737488351232) (h : ∀ i (hi : i < m.es.length), (m.es[i]).2.2.length ≤ 140737488351232) (k : Nat) (hk : k ≤ m.es.length) : m.lenK k ≤ 140737488351277 + k * 140737488351241 := by
  induction k with
  | zero => unfold Mg.lenK; omega
  | succ k ih =>
    have := ih (by omega)
    have := h k (by omega)
    rw [Mg.lenK, List.getElem?_eq_getElem (by omega), Option.getD_some]
    omega
set_option maxHeartbeats 2000000 in
theorem lengthOf_any (m : Mg) (ea : Option Addr) (ec : Nat) (da : Option Addr) (dc : Nat) (w : World) (hE : EArgs w ea m.es) (hl : m.es.length ≤ 4096) (hd : m.dt.length ≤ 140737488351232) :
    Calls Try.prog 14 #[.agg #[.int .i64 m.kd, .int .i64 m.fr, .int .i64 m.too, .int .i64 m.tm, .int .i64 m.at_, .int .i64 m.att, .int .i64 m.cm, .int .i64 m.rd, .bool m.yes, .slice ea m.es.length ec, .slice da m.dt.length dc]] w fun r w' => r = .returned (.int .i64 (m.lenK m.es.length)) ∧ Below w.heap.size w w' := by
  have b0 := box11_below w #[.int .i64 m.kd, .int .i64 m.fr, .int .i64 m.too, .int .i64 m.tm, .int .i64 m.at_, .int .i64 m.att, .int .i64 m.cm, .int .i64 m.rd, .bool m.yes, .slice ea m.es.length ec, .slice da m.dt.length dc] 25
  have M0 : Blk (w.alloc (.cells #[.int .i64 m.kd, .int .i64 m.fr, .int .i64 m.too, .int .i64 m.tm, .int .i64 m.at_, .int .i64 m.att, .int .i64 m.cm, .int .i64 m.rd, .bool m.yes, .slice ea m.es.length ec, .slice da m.dt.length dc] 25)) w.heap.size 25 [.int .i64 m.kd, .int .i64 m.fr, .int .i64 m.too, .int .i64 m.tm, .int .i64 m.at_, .int .i64 m.att, .int .i64 m.cm, .int .i64 m.rd, .bool m.yes, .slice ea m.es.length ec, .slice da m.dt.length dc] := Blk.new' w _ _
  obtain ⟨c0, c1, c2, c3, c4, c5, c6, c7, c8, c9, c10⟩ := eblk11 M0
  have hbd := lenK_bd hd (fun i hi => by obtain ⟨p, off, -, h⟩ := hE.at i hi; exact h.len)
  have H0 : Hid (Below w.heap.size w (w.alloc (.cells #[.int .i64 m.kd, .int .i64 m.fr, .int .i64 m.too, .int .i64 m.tm, .int .i64 m.at_, .int .i64 m.att, .int .i64 m.cm, .int .i64 m.rd, .bool m.yes, .slice ea m.es.length ec, .slice da m.dt.length dc] 25)) ∧ EArgs (w.alloc (.cells #[.int .i64 m.kd, .int .i64 m.fr, .int .i64 m.too, .int .i64 m.tm, .int .i64 m.at_, .int .i64 m.att, .int .i64 m.cm, .int .i64 m.rd, .bool m.yes, .slice ea m.es.length ec, .slice da m.dt.length dc] 25)) ea m.es) := ⟨b0, hE.later b0⟩
  have HB : Hid _ := hbd
  have hdi : (m.dt.length : Int) ≤ 140737488351232 := by omega
  clear b0 M0 hE hbd
  go_enter Try.func14, Try.ntmps14
  go_wp2_with fail
  generalize w.alloc (.cells #[.int .i64 m.kd, .int .i64 m.fr, .int .i64 m.too, .int .i64 m.tm, .int .i64 m.at_, .int .i64 m.att, .int .i64 m.cm, .int .i64 m.rd, .bool m.yes, .slice ea m.es.length ec, .slice da m.dt.length dc] 25) = wb at *
  clear c0 c1 c2 c3 c4 c5 c6 c7 c8 c9 c10
  go_loopw [3, 13] (fun nv iv wr => ∃ i : Nat, iv = .int .i64 i ∧ nv = .int .i64 (m.lenK i) ∧ i ≤ m.es.length ∧ Below wb.heap.size wb wr) (fun _ iv _ => m.es.length - (intOf iv).toNat)
  case atStart => exact ⟨0, rfl, by unfold Mg.lenK; go_num, by omega, Below.refl _ _⟩
  case round =>
    obtain ⟨i, rfl, rfl, hi, hb⟩ := hrel
    have HR : Hid _ := hb
    clear hb
    have hbi := HB.out i hi
    by_cases hlt : i < m.es.length
    · have hlt' : (i : Int) < (m.es.length : Int) := by omega
      obtain ⟨p, off, rfl, hAt⟩ := EArgs.at (H0.out.2.later HR.out) i hlt
      obtain ⟨h1, h2, ⟨x, cx, h3, -, -, -⟩, -, -, h8⟩ := hAt
      have hnx : m.lenK (i + 1) = m.lenK i + (9 + (m.es[i]).2.2.length) := by rw [Mg.lenK, List.getElem?_eq_getElem hlt, Option.getD_some]
      have HN : Hid _ := hnx
      clear hnx
      generalize (m.es[i]).1 = ek at *
      generalize (m.es[i]).2.1 = et at *
      generalize (m.es[i]).2.2.length = en at *
      generalize m.lenK i = L at *
      have b5 := box3_below wr (.int .i64 ek) (.int .i64 et) (.slice x en cx) 49
      have F : Hid _ := below_then HR.out b5
      clear b5
      go_wp2
      go_roundw
      case rel => exact ⟨i + 1, by go_num, by rw [HN.out]; go_num, by omega, F.out⟩
      case measure => simp [intOf]; omega
    · have he : i = m.es.length := by omega
      subst he
      have F : Hid _ := below_then H0.out.1 HR.out
      go_wp2
      go_ret
      exact ⟨rfl, F.out⟩
end Go.Proofs.Ytgjcgnmomdanaaa

/- Whether a message can be sent. -/
namespace Go.Proofs.Ytgjcgnmomdanaaa
open Go.RowKit Go.Shelf
set_option linter.unusedVariables false
set_option maxRecDepth 20000

def byB (n : Int) : Bool := decide (0 ≤ n ∧ n ≤ 255)
def canM (m : Mg) : Bool := (byB m.kd && byB m.fr && byB m.too) && (numB m.tm && numB m.at_ && numB m.att && numB m.cm && numB m.rd) && m.es.all canE
set_option maxHeartbeats 4000000 in
theorem canBeSent_any (m : Mg) (ea : Option Addr) (ec : Nat) (da : Option Addr) (dc : Nat) (w : World) (hE : EArgs w ea m.es) (hl : m.es.length ≤ 140737488355328) :
    Calls Try.prog 15 #[.agg #[.int .i64 m.kd, .int .i64 m.fr, .int .i64 m.too, .int .i64 m.tm, .int .i64 m.at_, .int .i64 m.att, .int .i64 m.cm, .int .i64 m.rd, .bool m.yes, .slice ea m.es.length ec, .slice da m.dt.length dc]] w fun r w' => r = .returned (.bool (canM m)) ∧ Below w.heap.size w w' := by
  have b0 := box11_below w #[.int .i64 m.kd, .int .i64 m.fr, .int .i64 m.too, .int .i64 m.tm, .int .i64 m.at_, .int .i64 m.att, .int .i64 m.cm, .int .i64 m.rd, .bool m.yes, .slice ea m.es.length ec, .slice da m.dt.length dc] 25
  have M0 : Blk (w.alloc (.cells #[.int .i64 m.kd, .int .i64 m.fr, .int .i64 m.too, .int .i64 m.tm, .int .i64 m.at_, .int .i64 m.att, .int .i64 m.cm, .int .i64 m.rd, .bool m.yes, .slice ea m.es.length ec, .slice da m.dt.length dc] 25)) w.heap.size 25 [.int .i64 m.kd, .int .i64 m.fr, .int .i64 m.too, .int .i64 m.tm, .int .i64 m.at_, .int .i64 m.att, .int .i64 m.cm, .int .i64 m.rd, .bool m.yes, .slice ea m.es.length ec, .slice da m.dt.length dc] := Blk.new' w _ _
  obtain ⟨c0, c1, c2, c3, c4, c5, c6, c7, c8, c9, c10⟩ := eblk11 M0
  have b1 := box3_below (w.alloc (.cells #[.int .i64 m.kd, .int .i64 m.fr, .int .i64 m.too, .int .i64 m.tm, .int .i64 m.at_, .int .i64 m.att, .int .i64 m.cm, .int .i64 m.rd, .bool m.yes, .slice ea m.es.length ec, .slice da m.dt.length dc] 25)) (.int .i64 m.kd) (.int .i64 m.fr) (.int .i64 m.too) 3
  have M1 : Blk ((w.alloc (.cells #[.int .i64 m.kd, .int .i64 m.fr, .int .i64 m.too, .int .i64 m.tm, .int .i64 m.at_, .int .i64 m.att, .int .i64 m.cm, .int .i64 m.rd, .bool m.yes, .slice ea m.es.length ec, .slice da m.dt.length dc] 25)).alloc (.cells #[.int .i64 m.kd, .int .i64 m.fr, .int .i64 m.too] 3)) (w.alloc (.cells #[.int .i64 m.kd, .int .i64 m.fr, .int .i64 m.too, .int .i64 m.tm, .int .i64 m.at_, .int .i64 m.att, .int .i64 m.cm, .int .i64 m.rd, .bool m.yes, .slice ea m.es.length ec, .slice da m.dt.length dc] 25)).heap.size 3 [.int .i64 m.kd, .int .i64 m.fr, .int .i64 m.too] := Blk.new' _ _ _
  have hs : (w.alloc (.cells #[.int .i64 m.kd, .int .i64 m.fr, .int .i64 m.too, .int .i64 m.tm, .int .i64 m.at_, .int .i64 m.att, .int .i64 m.cm, .int .i64 m.rd, .bool m.yes, .slice ea m.es.length ec, .slice da m.dt.length dc] 25)).heap.size = w.heap.size + 1 := by first | simp | rfl
  rw [hs] at M1
  have H0 : Hid (Below w.heap.size w ((w.alloc (.cells #[.int .i64 m.kd, .int .i64 m.fr, .int .i64 m.too, .int .i64 m.tm, .int .i64 m.at_, .int .i64 m.att, .int .i64 m.cm, .int .i64 m.rd, .bool m.yes, .slice ea m.es.length ec, .slice da m.dt.length dc] 25)).alloc (.cells #[.int .i64 m.kd, .int .i64 m.fr, .int .i64 m.too] 3)) ∧ Blk ((w.alloc (.cells #[.int .i64 m.kd, .int .i64 m.fr, .int .i64 m.too, .int .i64 m.tm, .int .i64 m.at_, .int .i64 m.att, .int .i64 m.cm, .int .i64 m.rd, .bool m.yes, .slice ea m.es.length ec, .slice da m.dt.length dc] 25)).alloc (.cells #[.int .i64 m.kd, .int .i64 m.fr, .int .i64 m.too] 3)) w.heap.size 25 [.int .i64 m.kd, .int .i64 m.fr, .int .i64 m.too, .int .i64 m.tm, .int .i64 m.at_, .int .i64 m.att, .int .i64 m.cm, .int .i64 m.rd, .bool m.yes, .slice ea m.es.length ec, .slice da m.dt.length dc] ∧ EArgs ((w.alloc (.cells #[.int .i64 m.kd, .int .i64 m.fr, .int .i64 m.too, .int .i64 m.tm, .int .i64 m.at_, .int .i64 m.att, .int .i64 m.cm, .int .i64 m.rd, .bool m.yes, .slice ea m.es.length ec, .slice da m.dt.length dc] 25)).alloc (.cells #[.int .i64 m.kd, .int .i64 m.fr, .int .i64 m.too] 3)) ea m.es ∧ Blk ((w.alloc (.cells #[.int .i64 m.kd, .int .i64 m.fr, .int .i64 m.too, .int .i64 m.tm, .int .i64 m.at_, .int .i64 m.att, .int .i64 m.cm, .int .i64 m.rd, .bool m.yes, .slice ea m.es.length ec, .slice da m.dt.length dc] 25)).alloc (.cells #[.int .i64 m.kd, .int .i64 m.fr, .int .i64 m.too] 3)) (w.heap.size + 1) 3 [.int .i64 m.kd, .int .i64 m.fr, .int .i64 m.too]) := ⟨below_then b0 b1, M0.laterB b1, (hE.later b0).later b1, M1⟩
  obtain ⟨R, hR⟩ : ∃ R, R = canM m := ⟨_, rfl⟩
  rw [← hR]
  have HR : Hid (R = ((byB m.kd && byB m.fr && byB m.too) && (numB m.tm && numB m.at_ && numB m.att && numB m.cm && numB m.rd) && m.es.all canE)) := hR
  clear b0 M0 b1 M1 hs hE hR
  go_enter Try.func15, Try.ntmps15
  go_wp2_with fail
  generalize (w.alloc (.cells #[.int .i64 m.kd, .int .i64 m.fr, .int .i64 m.too, .int .i64 m.tm, .int .i64 m.at_, .int .i64 m.att, .int .i64 m.cm, .int .i64 m.rd, .bool m.yes, .slice ea m.es.length ec, .slice da m.dt.length dc] 25)).alloc (.cells #[.int .i64 m.kd, .int .i64 m.fr, .int .i64 m.too] 3) = wb at *
  clear c0 c1 c2 c3 c4 c5 c6 c7 c8 c9 c10
  go_loopw [17] (fun iv wr => ∃ i : Nat, iv = .int .i64 i ∧ i ≤ 3 ∧ (0 < i → byB m.kd = true) ∧ (1 < i → byB m.fr = true) ∧ (2 < i → byB m.too = true) ∧ Below wb.heap.size wb wr) (fun iv _ => 3 - (intOf iv).toNat)
  case atStart => exact ⟨0, rfl, by omega, (fun h => by omega), (fun h => by omega), (fun h => by omega), Below.refl _ _⟩
  case round =>
    obtain ⟨i, rfl, hi, g0, g1, g2, hb⟩ := hrel
    have HB : Hid (Below wb.heap.size wb wr) := hb
    have HG : Hid ((0 < i → byB m.kd = true) ∧ (1 < i → byB m.fr = true) ∧ (2 < i → byB m.too = true)) := ⟨g0, g1, g2⟩
    clear g0 g1 g2 hb
    obtain ⟨⟨d0, d1, d2⟩, -⟩ := eblk3 (H0.out.2.2.2.laterB HB.out)
    rcases (show i = 0 ∨ i = 1 ∨ i = 2 ∨ i = 3 by omega) with rfl | rfl | rfl | rfl
    · by_cases x0 : m.kd < 0
      · have HX : Hid (R = false) := (by rw [HR.out, show byB m.kd = false from decide_eq_false (by omega)]; simp : R = false)
        have F : Hid _ := below_then H0.out.1 HB.out
        clear HB
        go_wp2
        go_ret
        exact ⟨ret_bool HX.out.symm, F.out⟩
      · by_cases x1 : 255 < m.kd
        · have HX : Hid (R = false) := (by rw [HR.out, show byB m.kd = false from decide_eq_false (by omega)]; simp : R = false)
          have F : Hid _ := below_then H0.out.1 HB.out
          clear HB
          go_wp2
          go_ret
          exact ⟨ret_bool HX.out.symm, F.out⟩
        · have HX : Hid (byB m.kd = true) := decide_eq_true (by omega)
          go_wp2
          go_roundw
          case rel => exact ⟨1, by go_num, by omega, (fun _ => HX.out), (fun h => by omega), (fun h => by omega), HB.out⟩
          case measure => simp [intOf]
    · by_cases x0 : m.fr < 0
      · have HX : Hid (R = false) := (by rw [HR.out, show byB m.fr = false from decide_eq_false (by omega)]; simp : R = false)
        have F : Hid _ := below_then H0.out.1 HB.out
        clear HB
        go_wp2
        go_ret
        exact ⟨ret_bool HX.out.symm, F.out⟩
      · by_cases x1 : 255 < m.fr
        · have HX : Hid (R = false) := (by rw [HR.out, show byB m.fr = false from decide_eq_false (by omega)]; simp : R = false)
          have F : Hid _ := below_then H0.out.1 HB.out
          clear HB
          go_wp2
          go_ret
          exact ⟨ret_bool HX.out.symm, F.out⟩
        · have HX : Hid (byB m.fr = true) := decide_eq_true (by omega)
          go_wp2
          go_roundw
          case rel => exact ⟨2, by go_num, by omega, (fun _ => HG.out.1 (by omega)), (fun _ => HX.out), (fun h => by omega), HB.out⟩
          case measure => simp [intOf]
    · by_cases x0 : m.too < 0
      · have HX : Hid (R = false) := (by rw [HR.out, show byB m.too = false from decide_eq_false (by omega)]; simp : R = false)
        have F : Hid _ := below_then H0.out.1 HB.out
        clear HB
        go_wp2
        go_ret
        exact ⟨ret_bool HX.out.symm, F.out⟩
      · by_cases x1 : 255 < m.too
        · have HX : Hid (R = false) := (by rw [HR.out, show byB m.too = false from decide_eq_false (by omega)]; simp : R = false)
          have F : Hid _ := below_then H0.out.1 HB.out
          clear HB
          go_wp2
          go_ret
          exact ⟨ret_bool HX.out.symm, F.out⟩
        · have HX : Hid (byB m.too = true) := decide_eq_true (by omega)
          go_wp2
          go_roundw
          case rel => exact ⟨3, by go_num, by omega, (fun _ => HG.out.1 (by omega)), (fun _ => HG.out.2.1 (by omega)), (fun _ => HX.out), HB.out⟩
          case measure => simp [intOf]
    · obtain ⟨c0, c1, c2, c3, c4, c5, c6, c7, c8, c9, c10⟩ := eblk11 (H0.out.2.1.laterB HB.out)
      have N1 := numbersOf_any m ea ec da dc wr
      clear d0 d1 d2
      go_wp2_with fail
      clear c0 c1 c2 c3 c4 c5 c6 c7 c8 c9 c10
      refine N1.mono ?_
      rintro r w2 ⟨rfl, b2⟩
      have HB2 : Hid (Below wb.heap.size wb w2) := below_then HB.out b2
      clear N1 b2 HB
      go_wp2_with fail
      go_loopw [30] (fun iv wr => ∃ i : Nat, iv = .int .i64 i ∧ i ≤ 5 ∧ (0 < i → numB m.tm = true) ∧ (1 < i → numB m.at_ = true) ∧ (2 < i → numB m.att = true) ∧ (3 < i → numB m.cm = true) ∧ (4 < i → numB m.rd = true) ∧ Below wb.heap.size wb wr) (fun iv _ => 5 - (intOf iv).toNat)
      case atStart => exact ⟨0, rfl, by omega, (fun h => by omega), (fun h => by omega), (fun h => by omega), (fun h => by omega), (fun h => by omega), HB2.out⟩
      case round =>
        obtain ⟨i, rfl, hi, g0, g1, g2, g3, g4, hb⟩ := hrel
        have HB : Hid (Below wb.heap.size wb wr) := hb
        have HN : Hid ((0 < i → numB m.tm = true) ∧ (1 < i → numB m.at_ = true) ∧ (2 < i → numB m.att = true) ∧ (3 < i → numB m.cm = true) ∧ (4 < i → numB m.rd = true)) := ⟨g0, g1, g2, g3, g4⟩
        clear g0 g1 g2 g3 g4 hb
        rcases (show i = 0 ∨ i = 1 ∨ i = 2 ∨ i = 3 ∨ i = 4 ∨ i = 5 by omega) with rfl | rfl | rfl | rfl | rfl | rfl
        · have N2 := isNumber_any m.tm wr
          have ix : (Instr.index 83 (.agg #[.int .i64 m.tm, .int .i64 m.at_, .int .i64 m.att, .int .i64 m.cm, .int .i64 m.rd]) (.int .i64 0)).run Try.prog wr = .ok (.int .i64 m.tm) wr := by first | rfl | kernel_rfl
          go_wp2_with fail
          refine N2.mono ?_
          rintro r w3 ⟨rfl, rfl⟩
          clear N2
          cases hcv : numB m.tm with
          | true =>
            have HX : Hid (numB m.tm = true) := hcv
            clear hcv
            go_wp2
            go_roundw
            case rel => exact ⟨1, by go_num, by omega, (fun _ => HX.out), (fun h => by omega), (fun h => by omega), (fun h => by omega), (fun h => by omega), HB.out⟩
            case measure => simp [intOf]
          | false =>
            have HX : Hid (R = false) := (by rw [HR.out, hcv]; simp : R = false)
            have F : Hid _ := below_then H0.out.1 HB.out
            clear hcv HB
            go_wp2
            go_ret
            exact ⟨ret_bool HX.out.symm, F.out⟩
        · have N2 := isNumber_any m.at_ wr
          have ix : (Instr.index 83 (.agg #[.int .i64 m.tm, .int .i64 m.at_, .int .i64 m.att, .int .i64 m.cm, .int .i64 m.rd]) (.int .i64 1)).run Try.prog wr = .ok (.int .i64 m.at_) wr := by first | rfl | kernel_rfl
          go_wp2_with fail
          refine N2.mono ?_
          rintro r w3 ⟨rfl, rfl⟩
          clear N2
          cases hcv : numB m.at_ with
          | true =>
            have HX : Hid (numB m.at_ = true) := hcv
            clear hcv
            go_wp2
            go_roundw
            case rel => exact ⟨2, by go_num, by omega, (fun _ => HN.out.1 (by omega)), (fun _ => HX.out), (fun h => by omega), (fun h => by omega), (fun h => by omega), HB.out⟩
            case measure => simp [intOf]
          | false =>
            have HX : Hid (R = false) := (by rw [HR.out, hcv]; simp : R = false)
            have F : Hid _ := below_then H0.out.1 HB.out
            clear hcv HB
            go_wp2
            go_ret
            exact ⟨ret_bool HX.out.symm, F.out⟩
        · have N2 := isNumber_any m.att wr
          have ix : (Instr.index 83 (.agg #[.int .i64 m.tm, .int .i64 m.at_, .int .i64 m.att, .int .i64 m.cm, .int .i64 m.rd]) (.int .i64 2)).run Try.prog wr = .ok (.int .i64 m.att) wr := by first | rfl | kernel_rfl
          go_wp2_with fail
          refine N2.mono ?_
          rintro r w3 ⟨rfl, rfl⟩
          clear N2
          cases hcv : numB m.att with
          | true =>
            have HX : Hid (numB m.att = true) := hcv
            clear hcv
            go_wp2
            go_roundw
            case rel => exact ⟨3, by go_num, by omega, (fun _ => HN.out.1 (by omega)), (fun _ => HN.out.2.1 (by omega)), (fun _ => HX.out), (fun h => by omega), (fun h => by omega), HB.out⟩
            case measure => simp [intOf]
          | false =>
            have HX : Hid (R = false) := (by rw [HR.out, hcv]; simp : R = false)
            have F : Hid _ := below_then H0.out.1 HB.out
            clear hcv HB
            go_wp2
            go_ret
            exact ⟨ret_bool HX.out.symm, F.out⟩
        · have N2 := isNumber_any m.cm wr
          have ix : (Instr.index 83 (.agg #[.int .i64 m.tm, .int .i64 m.at_, .int .i64 m.att, .int .i64 m.cm, .int .i64 m.rd]) (.int .i64 3)).run Try.prog wr = .ok (.int .i64 m.cm) wr := by first | rfl | kernel_rfl
          go_wp2_with fail
          refine N2.mono ?_
          rintro r w3 ⟨rfl, rfl⟩
          clear N2
          cases hcv : numB m.cm with
          | true =>
            have HX : Hid (numB m.cm = true) := hcv
            clear hcv
            go_wp2
            go_roundw
            case rel => exact ⟨4, by go_num, by omega, (fun _ => HN.out.1 (by omega)), (fun _ => HN.out.2.1 (by omega)), (fun _ => HN.out.2.2.1 (by omega)), (fun _ => HX.out), (fun h => by omega), HB.out⟩
            case measure => simp [intOf]
          | false =>
            have HX : Hid (R = false) := (by rw [HR.out, hcv]; simp : R = false)
            have F : Hid _ := below_then H0.out.1 HB.out
            clear hcv HB
            go_wp2
            go_ret
            exact ⟨ret_bool HX.out.symm, F.out⟩
        · have N2 := isNumber_any m.rd wr
          have ix : (Instr.index 83 (.agg #[.int .i64 m.tm, .int .i64 m.at_, .int .i64 m.att, .int .i64 m.cm, .int .i64 m.rd]) (.int .i64 4)).run Try.prog wr = .ok (.int .i64 m.rd) wr := by first | rfl | kernel_rfl
          go_wp2_with fail
          refine N2.mono ?_
          rintro r w3 ⟨rfl, rfl⟩
          clear N2
          cases hcv : numB m.rd with
          | true =>
            have HX : Hid (numB m.rd = true) := hcv
            clear hcv
            go_wp2
            go_roundw
            case rel => exact ⟨5, by go_num, by omega, (fun _ => HN.out.1 (by omega)), (fun _ => HN.out.2.1 (by omega)), (fun _ => HN.out.2.2.1 (by omega)), (fun _ => HN.out.2.2.2.1 (by omega)), (fun _ => HX.out), HB.out⟩
            case measure => simp [intOf]
          | false =>
            have HX : Hid (R = false) := (by rw [HR.out, hcv]; simp : R = false)
            have F : Hid _ := below_then H0.out.1 HB.out
            clear hcv HB
            go_wp2
            go_ret
            exact ⟨ret_bool HX.out.symm, F.out⟩
        · rw [show ((5 : Nat) : Int) = 5 from rfl]
          obtain ⟨c0, c1, c2, c3, c4, c5, c6, c7, c8, c9, c10⟩ := eblk11 (H0.out.2.1.laterB HB.out)
          have hR3 : Hid (R = m.es.all canE) := (by rw [HR.out, HG.out.1 (by omega), HG.out.2.1 (by omega), HG.out.2.2 (by omega), HN.out.1 (by omega), HN.out.2.1 (by omega), HN.out.2.2.1 (by omega), HN.out.2.2.2.1 (by omega), HN.out.2.2.2.2 (by omega)]; simp : R = m.es.all canE)
          have HB3 : Hid (Below wb.heap.size wb wr) := HB.out
          clear HB
          go_wp2_with fail
          clear c0 c1 c2 c3 c4 c5 c6 c7 c8 c9 c10
          go_loopw [40] (fun iv wr => ∃ i : Nat, iv = .int .i64 i ∧ i ≤ m.es.length ∧ (∀ j (h : j < m.es.length), j < i → canE m.es[j] = true) ∧ Below wb.heap.size wb wr) (fun iv _ => m.es.length - (intOf iv).toNat)
          case atStart => exact ⟨0, rfl, by omega, (fun j _ h => by omega), HB3.out⟩
          case round =>
            obtain ⟨i, rfl, hi, g0, hb⟩ := hrel
            have HB : Hid (Below wb.heap.size wb wr) := hb
            have HA : Hid (∀ j (h : j < m.es.length), j < i → canE m.es[j] = true) := g0
            clear g0 hb
            by_cases hlt : i < m.es.length
            · have hlt' : (i : Int) < (m.es.length : Int) := by omega
              obtain ⟨p, off, rfl, hAt⟩ := EArgs.at (H0.out.2.2.1.later HB.out) i hlt
              obtain ⟨h1, h2, ⟨x, cx, h3, h4, h5, h6⟩, h7, h7', h8⟩ := hAt
              have HNx : Hid (∀ b : Bool, canE (m.es[i].1, m.es[i].2.1, m.es[i].2.2) = b → (b = true → ∀ j (h : j < m.es.length), j < i + 1 → canE m.es[j] = true) ∧ (b = false → R = false)) := fun b hbv => by
                constructor
                · intro e j hj hji
                  by_cases ej : j = i
                  · subst ej; rw [← e]; exact hbv
                  · exact HA.out j hj (by omega)
                · intro e
                  rw [hR3.out, List.all_eq_false]
                  exact ⟨m.es[i], List.getElem_mem _, by rw [show canE m.es[i] = b from hbv, e]; simp⟩
              generalize (m.es[i]).1 = ek at *
              generalize (m.es[i]).2.1 = et at *
              generalize (m.es[i]).2.2 = el at *
              have b5 := box3_below wr (.int .i64 ek) (.int .i64 et) (.slice x el.length cx) 49
              have N5 := canBe9_any ek et el x cx (wr.alloc (.cells #[.int .i64 ek, .int .i64 et, .slice x el.length cx] 49)) (h4.later b5) (by omega)
              have F5 : Hid _ := below_then HB.out b5
              clear b5 h4
              go_wp2_with fail
              generalize wr.alloc (.cells #[.int .i64 ek, .int .i64 et, .slice x el.length cx] 49) = w5 at *
              refine N5.mono ?_
              rintro r w6 ⟨rfl, b6⟩
              have F : Hid (Below wb.heap.size wb w6) := below_then F5.out b6
              clear N5 F5 b6 HB
              cases hcv : canE (ek, et, el) with
              | true =>
                have HX : Hid _ := (HNx.out true hcv).1 rfl
                clear hcv HNx
                go_wp2
                go_roundw
                case rel => exact ⟨i + 1, by go_num, by omega, HX.out, F.out⟩
                case measure => simp [intOf]; omega
              | false =>
                have HX : Hid (R = false) := (HNx.out false hcv).2 rfl
                clear hcv HNx
                go_wp2
                go_ret
                exact ⟨ret_bool HX.out.symm, below_then H0.out.1 F.out⟩
            · have HX : Hid (R = true) := (by rw [hR3.out, List.all_eq_true]; intro e he; obtain ⟨j, hj, rfl⟩ := List.getElem_of_mem he; exact HA.out j hj (by omega) : R = true)
              have F : Hid _ := below_then H0.out.1 HB.out
              clear HB
              go_wp2
              go_ret
              exact ⟨ret_bool HX.out.symm, F.out⟩
end Go.Proofs.Ytgjcgnmomdanaaa

/- A message written. -/
namespace Go.Proofs.Ytgjcgnmomdanaaa
open Go.RowKit Go.Shelf
set_option linter.unusedVariables false
set_option maxRecDepth 20000

/-- numbers as bytes, s each, the first i -/
def bN (s : Nat) (xs : List Int) (i : Nat) : List (BitVec 8) := (xs.take i).flatMap (fun n => be s (BitVec.ofInt 64 n))
theorem bN_succ (s : Nat) (xs : List Int) (i : Nat) (h : i < xs.length) : bN s xs (i + 1) = bN s xs i ++ be s (BitVec.ofInt 64 xs[i]) := by
  unfold bN; rw [List.take_succ_eq_append_getElem h, List.flatMap_append]; simp
theorem bN_len (s : Nat) (hs : s ≤ 8) (xs : List Int) (i : Nat) (h : i ≤ xs.length) : (bN s xs i).length = s * i := by
  induction i with
  | zero => simp [bN]
  | succ i ih => rw [bN_succ s xs i h, List.length_append, ih (by omega), be_length _ _ hs, Nat.mul_succ]
/-- entries as bytes, the first i -/
def pks (es : List Ent) (i : Nat) : List (BitVec 8) := (es.take i).flatMap packE
theorem pks_succ (es : List Ent) (i : Nat) (h : i < es.length) : pks es (i + 1) = pks es i ++ packE es[i] := by
  unfold pks; rw [List.take_succ_eq_append_getElem h, List.flatMap_append]; simp
theorem pks_len (es : List Ent) (hc : ∀ e ∈ es, canE e = true) (i : Nat) (h : i ≤ es.length) : (pks es i).length ≤ i * 4089 := by
  induction i with
  | zero => simp [pks]
  | succ i ih =>
    have h1 := ih (by omega)
    have h2 := canE_len (hc es[i] (List.getElem_mem _))
    rw [pks_succ es i h, List.length_append, packE_len]; omega
def yesN (m : Mg) : Int := if m.yes = true then 1 else 0
/-- all but the sum -/
def bodyM (m : Mg) : List (BitVec 8) := bN 1 [202, m.kd, m.fr, m.too, yesN m] 5 ++ bN 6 [m.tm, m.at_, m.att, m.cm, m.rd] 5 ++ be 2 (BitVec.ofInt 64 m.es.length) ++ pks m.es m.es.length ++ (be 4 (BitVec.ofNat 64 m.dt.length) ++ m.dt)
theorem wr_1 {n : Int} (h0 : 0 ≤ n) (h1 : n ≤ 255) (L : List (BitVec 8)) : wrNum L 0 1 n = (L ++ be 1 (BitVec.ofInt 64 n), 0) := by
  unfold wrNum
  have e1 : wnE 1 n = 0 := by
    unfold wnE; rw [if_neg (by decide), if_neg (by decide)]
    have e2 : ((1 : Int)).toNat = 1 := rfl
    rw [e2, if_neg]
    simp only [Nat.reduceMul, Nat.reduceSub, Int.reducePow]
    omega
  rw [if_pos rfl, if_pos e1]; rfl
theorem wr_6 {n : Int} (h : numB n = true) (L : List (BitVec 8)) : wrNum L 0 6 n = (L ++ be 6 (BitVec.ofInt 64 n), 0) := by
  have h' := of_decide_eq_true h
  unfold wrNum
  have e1 : wnE 6 n = 0 := by
    unfold wnE; rw [if_neg (by decide), if_neg (by decide)]
    have e2 : ((6 : Int)).toNat = 6 := rfl
    rw [e2, if_neg]
    simp only [Nat.reduceMul, Nat.reduceSub, Int.reducePow]
    omega
  rw [if_pos rfl, if_pos e1]; rfl
theorem wr_2 {n : Int} (h0 : 0 ≤ n) (h1 : n ≤ 4096) (L : List (BitVec 8)) : wrNum L 0 2 n = (L ++ be 2 (BitVec.ofInt 64 n), 0) := by
  unfold wrNum
  have e1 : wnE 2 n = 0 := by
    unfold wnE; rw [if_neg (by decide), if_neg (by decide)]
    have e2 : ((2 : Int)).toNat = 2 := rfl
    rw [e2, if_neg]
    simp only [Nat.reduceMul, Nat.reduceSub, Int.reducePow]
    omega
  rw [if_pos rfl, if_pos e1]; rfl
theorem addE4m (n : Nat) (h : n ≤ 65536) : addE 4 n = 0 := by
  unfold addE
  rw [if_neg (by decide), if_neg]
  rintro (h1 | h1)
  · omega
  · have h2 : fitsB 4 (BitVec.ofNat 64 n) = true := by
      unfold fitsB
      rw [decide_eq_true_eq, BitVec.toNat_ofNat, Nat.mod_eq_of_lt (by omega)]
      exact Nat.div_eq_of_lt (by omega)
    have e : ((4 : Int)).toNat = 4 := rfl
    rw [e, h2] at h1; cases h1
set_option maxHeartbeats 400000 in
theorem wBytes_ok4 (base g : Nat) (v : Value) (L : List (BitVec 8)) (ap : Option Addr) (plen pcap : Nat) (lp : List (BitVec 8)) (w : World) (hW : WrAt w base g 88 v L 0) (hL : L.length + 65544 ≤ 140737488351232)
    (hpl : lp.length = plen) (hple : plen ≤ pcap) (hpn : ap = none → pcap = 0) (hp4 : plen ≤ 65536) (hrow : ∀ w', w.grownBy w' v.ownBlock → Row w' ap lp) :
    Calls Try.prog 47 #[.pointer (some ⟨g, 0, none⟩), .int .i64 4, .slice ap plen pcap] w fun e w' => e = .returned (.tuple #[]) ∧ ∃ v', WrAt w' base g 88 v' (L ++ (be 4 (BitVec.ofNat 64 plen) ++ lp)) 0 ∧ Newer w v v' ∧ Turned (Mine g v) w w' := by
  have hB := hW.blk
  have c0 := hB.cell (by simp [maxLen]) 0 (by simp)
  have c1 := hB.cell (by simp [maxLen]) 1 (by simp)
  simp only [List.getElem?_cons_zero, List.getElem?_cons_succ] at c0 c1
  have hn := addE4m plen hp4
  obtain ⟨l, ho, hl⟩ := hW.own
  have hl' := hl rfl
  subst hl'
  obtain ⟨av, nv, cv, rfl⟩ := own_slice ho
  have hN := addTo_at _ base l 4 ap plen pcap lp w ho hW.base_w (by omega) (by omega) hpl hple hpn (by omega) hrow
  have K : Hid _ := And.intro hW (And.intro hB ho)
  clear hW hB ho hl hrow
  go_enter Try.func47, Try.ntmps47
  go_wp2_with fail
  refine (addError_any 4 ap plen pcap w (by omega)).mono ?_
  rw [hn]
  rintro e w' ⟨rfl, rfl⟩
  go_wp2_with fail
  refine Calls.mono hN ?_
  rintro e w1 ⟨v1, rfl, ho1, hg1, hn1⟩
  obtain ⟨a1, n1, cap1, rfl⟩ := own_slice ho1
  have hB1 := K.out.2.1.grown hg1 (fun e => own_apart K.out.2.2 K.out.2.1 K.out.1.other g e.symm rfl)
  have d0 := hB1.cell (by simp [maxLen]) 0 (by simp)
  have f0 := hB1.frozen (by simp [maxLen]) 0
  simp only [List.getElem?_cons_zero] at d0
  have P : Hid _ := WrAt.put K.out.1 ho1 hg1 hn1
  clear ho1 hg1 hn1 hB1 hN
  go_wp2
  go_end0
  exact ⟨rfl, _, P.out.1, P.out.2.1, P.out.2.2⟩
theorem turned_more9 {g : Nat} {v0 v1 : Value} {w wr w' : World} (hN : Newer w v0 v1) (h1 : Turned (Mine g v0) w wr) (h2 : Turned (Mine g v1) wr w') : Turned (Mine g v0) w w' :=
  h1.trans (h2.mono (fun k hk => by
    rcases hk with hk | hk
    · exact .inl (.inl hk)
    · rcases hN k hk with e | e
      · exact .inl (.inr e)
      · exact .inr e))
set_option maxHeartbeats 2000000 in
theorem wrEntry_turn (base g : Nat) (v : Value) (L : List (BitVec 8)) (k t : Int) (l : List (BitVec 8)) (x : Option Addr) (c : Nat) (w : World) (he : canE (k, t, l) = true) (hW : WrAt w base g 88 v L 0) (hL : L.length + 70000 ≤ 140737488351232) (hc : l.length ≤ c) (hn : x = none → c = 0) (hr : ∀ W, Below base w W → Row W x l) :
    Calls Try.prog 46 #[.pointer (some ⟨g, 0, none⟩), .agg #[.int .i64 k, .int .i64 t, .slice x l.length c]] w fun r w' => r = .returned (.tuple #[]) ∧ ∃ v', WrAt w' base g 88 v' (L ++ packE (k, t, l)) 0 ∧ Newer w v v' ∧ Turned (Mine g v) w w' := by
  have hk0 : 0 ≤ k := (canE_k he).1
  have hk2 : k ≤ 2 := (canE_k he).2
  have hcl : l.length ≤ 4080 := canE_len he
  have b0 := box3_below w (.int .i64 k) (.int .i64 t) (.slice x l.length c) 49
  have B0 : Blk (w.alloc (.cells #[.int .i64 k, .int .i64 t, .slice x l.length c] 49)) w.heap.size 49 [.int .i64 k, .int .i64 t, .slice x l.length c] := Blk.new' w _ _
  have hgl := hW.blk.lt
  have hvl : ∀ j, v.ownBlock = some j → j < w.heap.size := fun j hj => by obtain ⟨_, ho, -⟩ := hW.own; exact (World.ownsRow.lt ho j hj).2
  have hbw := hW.base_w
  have W0 := hW.stays (turned_below b0) (fun h => h) (fun _ _ h => h)
  have hsz : w.heap.size < (w.alloc (.cells #[.int .i64 k, .int .i64 t, .slice x l.length c] 49)).heap.size := B0.lt
  have HW : Hid (canE (k, t, l) = true ∧ (∀ W, Below base w W → Row W x l) ∧ base ≤ w.heap.size ∧ g < w.heap.size ∧ ∀ j, v.ownBlock = some j → j < w.heap.size) := ⟨he, hr, hbw, hgl, hvl⟩
  go_enter Try.func46, Try.ntmps46
  obtain ⟨⟨c0, c1, c2⟩, -⟩ := ebl3 B0
  clear hW he hr hgl hvl
  go_wp2_with fail
  generalize w.alloc (.cells #[.int .i64 k, .int .i64 t, .slice x l.length c] 49) = wb at *
  have N1 := wNum_any base g v L 0 1 (k + 64) wb W0 (by omega)
  rw [wr_kL HW.out.1 L] at N1
  have H0 : Hid (Below w.heap.size w wb ∧ WrAt wb base g 88 v L 0 ∧ Blk wb w.heap.size 49 [.int .i64 k, .int .i64 t, .slice x l.length c]) := ⟨b0, W0, B0⟩
  clear b0 W0 B0 c0 c1 c2
  refine N1.mono ?_
  rintro r w2 ⟨rfl, v2, W2, n2, t2⟩
  have hm : ¬ Mine g v w.heap.size := by
    rintro (h | h)
    · have := HW.out.2.2.2.1; omega
    · have := HW.out.2.2.2.2 _ h; omega
  have B2 := H0.out.2.2.turned t2 hm
  have hm2 : ¬ Mine g v2 w.heap.size := by
    rintro (h | h)
    · have := HW.out.2.2.2.1; omega
    · rcases n2 _ h with h' | h'
      · have := HW.out.2.2.2.2 _ h'; omega
      · omega
  have hv2 : ∀ j, v2.ownBlock = some j → j < w.heap.size ∨ w.heap.size < j := fun j hj => by
    rcases n2 _ hj with h' | h'
    · exact .inl (HW.out.2.2.2.2 _ h')
    · exact .inr (by omega)
  have hs2 := t2.size
  have T2 : Hid (Turned (Mine g v) w w2 ∧ Newer w v v2) := ⟨((turned_below H0.out.1).mono (fun _ h => absurd h id)).trans (t2.mono (fun _ h => .inl h)), fun j hj => by rcases n2 j hj with e | e; exact .inl e; exact .inr (by omega)⟩
  have b2 : Below base w w2 := (H0.out.1.mono HW.out.2.2.1).trans (H0.out.2.1.below t2)
  obtain ⟨⟨c0, c1, c2⟩, -⟩ := ebl3 B2
  have N2 := wNum_any base g v2 _ 0 6 t w2 W2 (by rw [List.length_append, be_length _ _ (by omega)]; omega)
  rw [wr_t (e := (k, t, l)) HW.out.1] at N2
  have H2 : Hid (Below base w w2 ∧ WrAt w2 base g 88 v2 (L ++ be 1 (BitVec.ofInt 64 (k + 64))) 0 ∧ Blk w2 w.heap.size 49 [.int .i64 k, .int .i64 t, .slice x l.length c]) := ⟨b2, W2, B2⟩
  clear H0 t2 hm W2 B2 b2 n2
  go_wp2_with fail
  clear c0 c1 c2
  refine N2.mono ?_
  rintro r w3 ⟨rfl, v3, W3, n3, t3⟩
  have B3 := H2.out.2.2.turned t3 hm2
  have T3 : Hid (Turned (Mine g v) w w3 ∧ Newer w v v3) := ⟨turned_more9 T2.out.2 T2.out.1 t3, T2.out.2.trans n3 T2.out.1.size⟩
  have b3 : Below base w w3 := H2.out.1.trans (H2.out.2.1.below t3)
  obtain ⟨⟨c0, c1, c2⟩, -⟩ := ebl3 B3
  have hv3 : ∀ j, v3.ownBlock = some j → base ≤ j := fun j hj => by obtain ⟨_, ho, -⟩ := W3.own; exact (World.ownsRow.lt ho j hj).1
  have N3 := wBytes_ok2 base g v3 _ x l.length c l w3 W3 (by rw [List.length_append, List.length_append, be_length _ _ (by omega), be_length _ _ (by omega)]; omega) rfl hc hn hcl (fun w' hg => HW.out.2.1 w' (b3.grown hg (Nat.le_trans HW.out.2.2.1 b3.size) (fun j hj => hv3 j hj)))
  have H3 : Hid (Below base w w3 ∧ WrAt w3 base g 88 v3 (L ++ be 1 (BitVec.ofInt 64 (k + 64)) ++ be 6 (BitVec.ofInt 64 t)) 0) := ⟨b3, W3⟩
  clear H2 t3 hm2 W3 B3 b3 n3 hv2 hv3
  go_wp2_with fail
  clear c0 c1 c2
  refine N3.mono ?_
  rintro r w4 ⟨rfl, v4, W4, n4, t4⟩
  have T4 : Turned (Mine g v) w w4 ∧ Newer w v v4 := ⟨turned_more9 T3.out.2 T3.out.1 t4, T3.out.2.trans n4 T3.out.1.size⟩
  have b4 : Below base w w4 := H3.out.1.trans (H3.out.2.below t4)
  have eL : L ++ be 1 (BitVec.ofInt 64 (k + 64)) ++ be 6 (BitVec.ofInt 64 t) ++ (be 2 (BitVec.ofNat 64 l.length) ++ l) = L ++ packE (k, t, l) := by unfold packE; simp only [List.append_assoc]
  have W4' : WrAt w4 base g 88 v4 (L ++ packE (k, t, l)) 0 := eL ▸ W4
  have F : Hid _ := And.intro W4' (And.intro T4.2 T4.1)
  clear W4 W4' b4 t4 H3 eL N3 T4 n4
  go_wp2
  go_end0
  exact ⟨rfl, v4, F.out.1, F.out.2.1, F.out.2.2⟩

/-- a writer at work, and blocks that stay -/
structure WS (base g : Nat) (bs : List (Nat × Nat × List Value)) (w W : World) (v : Value) (L : List (BitVec 8)) : Prop where
  wr : WrAt W base g 88 v L 0
  bl : Below base w W
  bx : ∀ b ∈ bs, Blk W b.1 b.2.1 b.2.2
  ne : ∀ b ∈ bs, b.1 ≠ g ∧ ∀ j, v.ownBlock = some j → j ≠ b.1
theorem WS.step {base g : Nat} {bs : List (Nat × Nat × List Value)} {w W W' : World} {v v' : Value} {L L' : List (BitVec 8)} (h : WS base g bs w W v L) (hw : WrAt W' base g 88 v' L' 0) (hn : Newer W v v') (ht : Turned (Mine g v) W W') : WS base g bs w W' v' L' := by
  refine ⟨hw, h.bl.trans (h.wr.below ht), fun b hb => ?_, fun b hb => ⟨(h.ne b hb).1, fun j hj => ?_⟩⟩
  · refine (h.bx b hb).turned ht ?_
    rintro (e | e)
    · exact (h.ne b hb).1 e
    · exact (h.ne b hb).2 _ e rfl
  · rcases hn j hj with e | e
    · exact (h.ne b hb).2 j e
    · have := (h.bx b hb).lt; omega
theorem WS.later {base g : Nat} {bs : List (Nat × Nat × List Value)} {w W W' : World} {v : Value} {L : List (BitVec 8)} (h : WS base g bs w W v L) (hb : Below W.heap.size W W') : WS base g bs w W' v L :=
  ⟨h.wr.stays (turned_below hb) (fun e => e) (fun _ _ e => e), h.bl.trans (hb.mono h.wr.base_w), fun b hbm => (h.bx b hbm).laterB hb, h.ne⟩
theorem WS.less {base g : Nat} {bs bs' : List (Nat × Nat × List Value)} {w W : World} {v : Value} {L : List (BitVec 8)} (h : WS base g bs w W v L) (hs : ∀ b ∈ bs', b ∈ bs) : WS base g bs' w W v L :=
  ⟨h.wr, h.bl, fun b hb => h.bx b (hs b hb), fun b hb => h.ne b (hs b hb)⟩
theorem WS.own {base g : Nat} {bs : List (Nat × Nat × List Value)} {w W : World} {v : Value} {L : List (BitVec 8)} (h : WS base g bs w W v L) : ∀ j, v.ownBlock = some j → base ≤ j ∧ j < W.heap.size := fun j hj => by obtain ⟨_, ho, -⟩ := h.wr.own; exact World.ownsRow.lt ho j hj
set_option maxHeartbeats 8000000 in
theorem writeMsg_any (base g : Nat) (v : Value) (m : Mg) (b : Bool) (hbm : b = m.yes) (ea : Option Addr) (ec : Nat) (da : Option Addr) (dc : Nat) (w : World) (hc : canM m = true) (hl : m.es.length ≤ 4096) (hd : m.dt.length ≤ 65536) (hdc : m.dt.length ≤ dc) (hdn : da = none → dc = 0) (hW : WrAt w base g 88 v [] 0) (w0 : World) (hE0 : EArgs w0 ea m.es) (hD0 : Row w0 da m.dt) (hb0 : w0.heap.size ≤ base) (h0w : Below w0.heap.size w0 w) :
    Calls Try.prog 17 #[.pointer (some ⟨g, 0, none⟩), .agg #[.int .i64 m.kd, .int .i64 m.fr, .int .i64 m.too, .int .i64 m.tm, .int .i64 m.at_, .int .i64 m.att, .int .i64 m.cm, .int .i64 m.rd, .bool b, .slice ea m.es.length ec, .slice da m.dt.length dc]] w fun r w' => r = .returned (.tuple #[]) ∧ ∃ v', WrAt w' base g 88 v' (bodyM m) 0 ∧ Below base w w' := by
  have hgl := hW.blk.lt
  have hbw := hW.base_w
  have hvl : ∀ j, v.ownBlock = some j → j < w.heap.size := fun j hj => by obtain ⟨_, ho, -⟩ := hW.own; exact (World.ownsRow.lt ho j hj).2
  have b0 := box11_below w #[.int .i64 m.kd, .int .i64 m.fr, .int .i64 m.too, .int .i64 m.tm, .int .i64 m.at_, .int .i64 m.att, .int .i64 m.cm, .int .i64 m.rd, .bool b, .slice ea m.es.length ec, .slice da m.dt.length dc] 25
  have M0 : Blk (w.alloc (.cells #[.int .i64 m.kd, .int .i64 m.fr, .int .i64 m.too, .int .i64 m.tm, .int .i64 m.at_, .int .i64 m.att, .int .i64 m.cm, .int .i64 m.rd, .bool b, .slice ea m.es.length ec, .slice da m.dt.length dc] 25)) w.heap.size 25 [.int .i64 m.kd, .int .i64 m.fr, .int .i64 m.too, .int .i64 m.tm, .int .i64 m.at_, .int .i64 m.att, .int .i64 m.cm, .int .i64 m.rd, .bool b, .slice ea m.es.length ec, .slice da m.dt.length dc] := Blk.new' w _ _
  have hs : (w.alloc (.cells #[.int .i64 m.kd, .int .i64 m.fr, .int .i64 m.too, .int .i64 m.tm, .int .i64 m.at_, .int .i64 m.att, .int .i64 m.cm, .int .i64 m.rd, .bool b, .slice ea m.es.length ec, .slice da m.dt.length dc] 25)).heap.size = w.heap.size + 1 := by first | simp | rfl
  have HC : Hid ((byB m.kd = true ∧ byB m.fr = true ∧ byB m.too = true) ∧ (numB m.tm = true ∧ numB m.at_ = true ∧ numB m.att = true ∧ numB m.cm = true ∧ numB m.rd = true) ∧ ∀ e ∈ m.es, canE e = true) := by
    unfold canM at hc
    simp only [Bool.and_eq_true, List.all_eq_true] at hc
    exact ⟨⟨hc.1.1.1.1, hc.1.1.1.2, hc.1.1.2⟩, ⟨hc.1.2.1.1.1.1, hc.1.2.1.1.1.2, hc.1.2.1.1.2, hc.1.2.1.2, hc.1.2.2⟩, hc.2⟩
  have HRw : Hid (EArgs w0 ea m.es ∧ Row w0 da m.dt ∧ w0.heap.size ≤ base ∧ Below w0.heap.size w0 w) := ⟨hE0, hD0, hb0, h0w⟩
  obtain ⟨y, hy⟩ : ∃ y : Int, y = if b = true then 1 else 0 := ⟨_, rfl⟩
  have HY : Hid (y = yesN m ∧ 0 ≤ y ∧ y ≤ 255) := ⟨by rw [hy, hbm]; rfl, by rw [hy]; split <;> omega, by rw [hy]; split <;> omega⟩
  have b1 := box11_below (w.alloc (.cells #[.int .i64 m.kd, .int .i64 m.fr, .int .i64 m.too, .int .i64 m.tm, .int .i64 m.at_, .int .i64 m.att, .int .i64 m.cm, .int .i64 m.rd, .bool b, .slice ea m.es.length ec, .slice da m.dt.length dc] 25)) #[.int .i64 202, .int .i64 m.kd, .int .i64 m.fr, .int .i64 m.too, .int .i64 y] 3
  have M1 : Blk ((w.alloc (.cells #[.int .i64 m.kd, .int .i64 m.fr, .int .i64 m.too, .int .i64 m.tm, .int .i64 m.at_, .int .i64 m.att, .int .i64 m.cm, .int .i64 m.rd, .bool b, .slice ea m.es.length ec, .slice da m.dt.length dc] 25)).alloc (.cells #[.int .i64 202, .int .i64 m.kd, .int .i64 m.fr, .int .i64 m.too, .int .i64 y] 3)) (w.alloc (.cells #[.int .i64 m.kd, .int .i64 m.fr, .int .i64 m.too, .int .i64 m.tm, .int .i64 m.at_, .int .i64 m.att, .int .i64 m.cm, .int .i64 m.rd, .bool b, .slice ea m.es.length ec, .slice da m.dt.length dc] 25)).heap.size 3 [.int .i64 202, .int .i64 m.kd, .int .i64 m.fr, .int .i64 m.too, .int .i64 y] := Blk.new' _ _ _
  rw [hs] at M1
  have hWS : WS base g [(w.heap.size, 25, [.int .i64 m.kd, .int .i64 m.fr, .int .i64 m.too, .int .i64 m.tm, .int .i64 m.at_, .int .i64 m.att, .int .i64 m.cm, .int .i64 m.rd, .bool b, .slice ea m.es.length ec, .slice da m.dt.length dc]), (w.heap.size + 1, 3, [.int .i64 202, .int .i64 m.kd, .int .i64 m.fr, .int .i64 m.too, .int .i64 y])] w ((w.alloc (.cells #[.int .i64 m.kd, .int .i64 m.fr, .int .i64 m.too, .int .i64 m.tm, .int .i64 m.at_, .int .i64 m.att, .int .i64 m.cm, .int .i64 m.rd, .bool b, .slice ea m.es.length ec, .slice da m.dt.length dc] 25)).alloc (.cells #[.int .i64 202, .int .i64 m.kd, .int .i64 m.fr, .int .i64 m.too, .int .i64 y] 3)) v (bN 1 [202, m.kd, m.fr, m.too, y] 0) := by
    refine ⟨hW.stays (turned_below (below_then b0 b1)) (fun e => e) (fun _ _ e => e), (below_then b0 b1).mono hbw, fun b hb => ?_, fun b hb => ?_⟩
    · rcases List.mem_cons.1 hb with rfl | hb
      · exact M0.laterB b1
      · rw [List.mem_singleton] at hb; subst hb; exact M1
    · rcases List.mem_cons.1 hb with rfl | hb
      · exact ⟨by show w.heap.size ≠ g; omega, fun j hj => by have := hvl j hj; show j ≠ w.heap.size; omega⟩
      · rw [List.mem_singleton] at hb; subst hb; exact ⟨by show w.heap.size + 1 ≠ g; omega, fun j hj => by have := hvl j hj; show j ≠ w.heap.size + 1; omega⟩
  have H0 : Hid _ := hWS
  obtain ⟨c0, c1, c2, c3, c4, c5, c6, c7, c8, c9, c10⟩ := eblk11 M0
  clear hWS M0 M1 b0 b1 hs hW hE0 hD0 hb0 h0w hc hvl
  clear hbm
  cases b with
  | false =>
    obtain rfl : y = 0 := by rw [hy]; rfl
    have HE : Hid (0 = yesN m) := HY.out.1
    clear hy
    go_enter Try.func17, Try.ntmps17
    go_wp2_with fail
    generalize (w.alloc (.cells #[.int .i64 m.kd, .int .i64 m.fr, .int .i64 m.too, .int .i64 m.tm, .int .i64 m.at_, .int .i64 m.att, .int .i64 m.cm, .int .i64 m.rd, .bool false, .slice ea m.es.length ec, .slice da m.dt.length dc] 25)).alloc (.cells #[.int .i64 202, .int .i64 m.kd, .int .i64 m.fr, .int .i64 m.too, .int .i64 0] 3) = wb at *
    clear c0 c1 c2 c3 c4 c5 c6 c7 c8 c9 c10
    go_loopw [22] (fun iv wr => ∃ (i : Nat) (v' : Value), iv = .int .i64 i ∧ i ≤ 5 ∧ WS base g [(w.heap.size, 25, [.int .i64 m.kd, .int .i64 m.fr, .int .i64 m.too, .int .i64 m.tm, .int .i64 m.at_, .int .i64 m.att, .int .i64 m.cm, .int .i64 m.rd, .bool false, .slice ea m.es.length ec, .slice da m.dt.length dc]), (w.heap.size + 1, 3, [.int .i64 202, .int .i64 m.kd, .int .i64 m.fr, .int .i64 m.too, .int .i64 0])] w wr v' (bN 1 [202, m.kd, m.fr, m.too, 0] i)) (fun iv _ => 5 - (intOf iv).toNat)
    case atStart => exact ⟨0, v, rfl, by omega, H0.out⟩
    case round =>
      obtain ⟨i, v', rfl, hi, hb⟩ := hrel
      have HB : Hid (WS base g [(w.heap.size, 25, [.int .i64 m.kd, .int .i64 m.fr, .int .i64 m.too, .int .i64 m.tm, .int .i64 m.at_, .int .i64 m.att, .int .i64 m.cm, .int .i64 m.rd, .bool false, .slice ea m.es.length ec, .slice da m.dt.length dc]), (w.heap.size + 1, 3, [.int .i64 202, .int .i64 m.kd, .int .i64 m.fr, .int .i64 m.too, .int .i64 0])] w wr v' (bN 1 [202, m.kd, m.fr, m.too, 0] i)) := hb
      clear hb
      rcases (show i = 0 ∨ i = 1 ∨ i = 2 ∨ i = 3 ∨ i = 4 ∨ i = 5 by omega) with rfl | rfl | rfl | rfl | rfl | rfl
      · have N := wNum_any base g v' _ 0 1 202 wr HB.out.wr (by rw [bN_len 1 (by omega) _ _ (by simp)]; omega)
        rw [wr_1 (n := 202) (by omega) (by omega)] at N
        obtain ⟨⟨d0, d1, d2, d3, d4⟩, -⟩ := eblk5 (HB.out.bx _ (List.mem_cons_of_mem _ (List.mem_singleton.2 rfl)))
        go_wp2_with fail
        clear d0 d1 d2 d3 d4
        refine N.mono ?_
        rintro r w2 ⟨rfl, v2, W2, n2, t2⟩
        have F : Hid (WS base g [(w.heap.size, 25, [.int .i64 m.kd, .int .i64 m.fr, .int .i64 m.too, .int .i64 m.tm, .int .i64 m.at_, .int .i64 m.att, .int .i64 m.cm, .int .i64 m.rd, .bool false, .slice ea m.es.length ec, .slice da m.dt.length dc]), (w.heap.size + 1, 3, [.int .i64 202, .int .i64 m.kd, .int .i64 m.fr, .int .i64 m.too, .int .i64 0])] w w2 v2 (bN 1 [202, m.kd, m.fr, m.too, 0] (0 + 1))) := HB.out.step (by rw [bN_succ 1 [202, m.kd, m.fr, m.too, 0] 0 (by simp)]; exact W2) n2 t2
        clear N W2 n2 t2 HB
        go_wp2
        go_roundw
        case rel => exact ⟨0 + 1, v2, by go_num, by omega, F.out⟩
        case measure => simp [intOf]
      · have N := wNum_any base g v' _ 0 1 m.kd wr HB.out.wr (by rw [bN_len 1 (by omega) _ _ (by simp)]; omega)
        rw [wr_1 (n := m.kd) (of_decide_eq_true HC.out.1.1).1 (of_decide_eq_true HC.out.1.1).2] at N
        obtain ⟨⟨d0, d1, d2, d3, d4⟩, -⟩ := eblk5 (HB.out.bx _ (List.mem_cons_of_mem _ (List.mem_singleton.2 rfl)))
        go_wp2_with fail
        clear d0 d1 d2 d3 d4
        refine N.mono ?_
        rintro r w2 ⟨rfl, v2, W2, n2, t2⟩
        have F : Hid (WS base g [(w.heap.size, 25, [.int .i64 m.kd, .int .i64 m.fr, .int .i64 m.too, .int .i64 m.tm, .int .i64 m.at_, .int .i64 m.att, .int .i64 m.cm, .int .i64 m.rd, .bool false, .slice ea m.es.length ec, .slice da m.dt.length dc]), (w.heap.size + 1, 3, [.int .i64 202, .int .i64 m.kd, .int .i64 m.fr, .int .i64 m.too, .int .i64 0])] w w2 v2 (bN 1 [202, m.kd, m.fr, m.too, 0] (1 + 1))) := HB.out.step (by rw [bN_succ 1 [202, m.kd, m.fr, m.too, 0] 1 (by simp)]; exact W2) n2 t2
        clear N W2 n2 t2 HB
        go_wp2
        go_roundw
        case rel => exact ⟨1 + 1, v2, by go_num, by omega, F.out⟩
        case measure => simp [intOf]
      · have N := wNum_any base g v' _ 0 1 m.fr wr HB.out.wr (by rw [bN_len 1 (by omega) _ _ (by simp)]; omega)
        rw [wr_1 (n := m.fr) (of_decide_eq_true HC.out.1.2.1).1 (of_decide_eq_true HC.out.1.2.1).2] at N
        obtain ⟨⟨d0, d1, d2, d3, d4⟩, -⟩ := eblk5 (HB.out.bx _ (List.mem_cons_of_mem _ (List.mem_singleton.2 rfl)))
        go_wp2_with fail
        clear d0 d1 d2 d3 d4
        refine N.mono ?_
        rintro r w2 ⟨rfl, v2, W2, n2, t2⟩
        have F : Hid (WS base g [(w.heap.size, 25, [.int .i64 m.kd, .int .i64 m.fr, .int .i64 m.too, .int .i64 m.tm, .int .i64 m.at_, .int .i64 m.att, .int .i64 m.cm, .int .i64 m.rd, .bool false, .slice ea m.es.length ec, .slice da m.dt.length dc]), (w.heap.size + 1, 3, [.int .i64 202, .int .i64 m.kd, .int .i64 m.fr, .int .i64 m.too, .int .i64 0])] w w2 v2 (bN 1 [202, m.kd, m.fr, m.too, 0] (2 + 1))) := HB.out.step (by rw [bN_succ 1 [202, m.kd, m.fr, m.too, 0] 2 (by simp)]; exact W2) n2 t2
        clear N W2 n2 t2 HB
        go_wp2
        go_roundw
        case rel => exact ⟨2 + 1, v2, by go_num, by omega, F.out⟩
        case measure => simp [intOf]
      · have N := wNum_any base g v' _ 0 1 m.too wr HB.out.wr (by rw [bN_len 1 (by omega) _ _ (by simp)]; omega)
        rw [wr_1 (n := m.too) (of_decide_eq_true HC.out.1.2.2).1 (of_decide_eq_true HC.out.1.2.2).2] at N
        obtain ⟨⟨d0, d1, d2, d3, d4⟩, -⟩ := eblk5 (HB.out.bx _ (List.mem_cons_of_mem _ (List.mem_singleton.2 rfl)))
        go_wp2_with fail
        clear d0 d1 d2 d3 d4
        refine N.mono ?_
        rintro r w2 ⟨rfl, v2, W2, n2, t2⟩
        have F : Hid (WS base g [(w.heap.size, 25, [.int .i64 m.kd, .int .i64 m.fr, .int .i64 m.too, .int .i64 m.tm, .int .i64 m.at_, .int .i64 m.att, .int .i64 m.cm, .int .i64 m.rd, .bool false, .slice ea m.es.length ec, .slice da m.dt.length dc]), (w.heap.size + 1, 3, [.int .i64 202, .int .i64 m.kd, .int .i64 m.fr, .int .i64 m.too, .int .i64 0])] w w2 v2 (bN 1 [202, m.kd, m.fr, m.too, 0] (3 + 1))) := HB.out.step (by rw [bN_succ 1 [202, m.kd, m.fr, m.too, 0] 3 (by simp)]; exact W2) n2 t2
        clear N W2 n2 t2 HB
        go_wp2
        go_roundw
        case rel => exact ⟨3 + 1, v2, by go_num, by omega, F.out⟩
        case measure => simp [intOf]
      · have N := wNum_any base g v' _ 0 1 0 wr HB.out.wr (by rw [bN_len 1 (by omega) _ _ (by simp)]; omega)
        rw [wr_1 (n := 0) HY.out.2.1 HY.out.2.2] at N
        obtain ⟨⟨d0, d1, d2, d3, d4⟩, -⟩ := eblk5 (HB.out.bx _ (List.mem_cons_of_mem _ (List.mem_singleton.2 rfl)))
        go_wp2_with fail
        clear d0 d1 d2 d3 d4
        refine N.mono ?_
        rintro r w2 ⟨rfl, v2, W2, n2, t2⟩
        have F : Hid (WS base g [(w.heap.size, 25, [.int .i64 m.kd, .int .i64 m.fr, .int .i64 m.too, .int .i64 m.tm, .int .i64 m.at_, .int .i64 m.att, .int .i64 m.cm, .int .i64 m.rd, .bool false, .slice ea m.es.length ec, .slice da m.dt.length dc]), (w.heap.size + 1, 3, [.int .i64 202, .int .i64 m.kd, .int .i64 m.fr, .int .i64 m.too, .int .i64 0])] w w2 v2 (bN 1 [202, m.kd, m.fr, m.too, 0] (4 + 1))) := HB.out.step (by rw [bN_succ 1 [202, m.kd, m.fr, m.too, 0] 4 (by simp)]; exact W2) n2 t2
        clear N W2 n2 t2 HB
        go_wp2
        go_roundw
        case rel => exact ⟨4 + 1, v2, by go_num, by omega, F.out⟩
        case measure => simp [intOf]
      · rw [show ((5 : Nat) : Int) = 5 from rfl]
        have HB1 : Hid (WS base g [(w.heap.size, 25, [.int .i64 m.kd, .int .i64 m.fr, .int .i64 m.too, .int .i64 m.tm, .int .i64 m.at_, .int .i64 m.att, .int .i64 m.cm, .int .i64 m.rd, .bool false, .slice ea m.es.length ec, .slice da m.dt.length dc])] w wr v' (bN 1 [202, m.kd, m.fr, m.too, 0] 5)) := HB.out.less (fun b hb => by rw [List.mem_singleton] at hb; subst hb; exact List.mem_cons_self)
        obtain ⟨c0, c1, c2, c3, c4, c5, c6, c7, c8, c9, c10⟩ := eblk11 (HB1.out.bx _ (List.mem_singleton.2 rfl))
        have N1 : Calls Try.prog 43 #[.agg #[.int .i64 m.kd, .int .i64 m.fr, .int .i64 m.too, .int .i64 m.tm, .int .i64 m.at_, .int .i64 m.att, .int .i64 m.cm, .int .i64 m.rd, .bool false, .slice ea m.es.length ec, .slice da m.dt.length dc]] wr fun r w' => r = .returned (.agg #[.int .i64 m.tm, .int .i64 m.at_, .int .i64 m.att, .int .i64 m.cm, .int .i64 m.rd]) ∧ Below wr.heap.size wr w' := numbersOf_any { m with yes := false } ea ec da dc wr
        clear HB H0
        go_wp2_with fail
        clear c0 c1 c2 c3 c4 c5 c6 c7 c8 c9 c10
        refine N1.mono ?_
        rintro r w2 ⟨rfl, b2⟩
        have HB2 : Hid (WS base g [(w.heap.size, 25, [.int .i64 m.kd, .int .i64 m.fr, .int .i64 m.too, .int .i64 m.tm, .int .i64 m.at_, .int .i64 m.att, .int .i64 m.cm, .int .i64 m.rd, .bool false, .slice ea m.es.length ec, .slice da m.dt.length dc])] w w2 v' (bN 1 [202, m.kd, m.fr, m.too, 0] 5 ++ bN 6 [m.tm, m.at_, m.att, m.cm, m.rd] 0)) := (show bN 1 [202, m.kd, m.fr, m.too, 0] 5 = bN 1 [202, m.kd, m.fr, m.too, 0] 5 ++ bN 6 [m.tm, m.at_, m.att, m.cm, m.rd] 0 from (List.append_nil _).symm) ▸ HB1.out.later b2
        clear N1 b2 HB1
        go_wp2_with fail
        go_loopw [32] (fun iv wr => ∃ (i : Nat) (v' : Value), iv = .int .i64 i ∧ i ≤ 5 ∧ WS base g [(w.heap.size, 25, [.int .i64 m.kd, .int .i64 m.fr, .int .i64 m.too, .int .i64 m.tm, .int .i64 m.at_, .int .i64 m.att, .int .i64 m.cm, .int .i64 m.rd, .bool false, .slice ea m.es.length ec, .slice da m.dt.length dc])] w wr v' (bN 1 [202, m.kd, m.fr, m.too, 0] 5 ++ bN 6 [m.tm, m.at_, m.att, m.cm, m.rd] i)) (fun iv _ => 5 - (intOf iv).toNat)
        case atStart => exact ⟨0, v', rfl, by omega, HB2.out⟩
        case round =>
          obtain ⟨i, v', rfl, hi, hb⟩ := hrel
          have HB : Hid (WS base g [(w.heap.size, 25, [.int .i64 m.kd, .int .i64 m.fr, .int .i64 m.too, .int .i64 m.tm, .int .i64 m.at_, .int .i64 m.att, .int .i64 m.cm, .int .i64 m.rd, .bool false, .slice ea m.es.length ec, .slice da m.dt.length dc])] w wr v' (bN 1 [202, m.kd, m.fr, m.too, 0] 5 ++ bN 6 [m.tm, m.at_, m.att, m.cm, m.rd] i)) := hb
          clear hb
          rcases (show i = 0 ∨ i = 1 ∨ i = 2 ∨ i = 3 ∨ i = 4 ∨ i = 5 by omega) with rfl | rfl | rfl | rfl | rfl | rfl
          · have N := wNum_any base g v' _ 0 6 m.tm wr HB.out.wr (by rw [List.length_append, bN_len 1 (by omega) _ _ (by simp), bN_len 6 (by omega) _ _ (by simp)]; omega)
            rw [wr_6 (n := m.tm) HC.out.2.1.1] at N
            have ix : (Instr.index 83 (.agg #[.int .i64 m.tm, .int .i64 m.at_, .int .i64 m.att, .int .i64 m.cm, .int .i64 m.rd]) (.int .i64 0)).run Try.prog wr = .ok (.int .i64 m.tm) wr := by first | rfl | kernel_rfl
            go_wp2_with fail
            refine N.mono ?_
            rintro r w2 ⟨rfl, v2, W2, n2, t2⟩
            have F : Hid (WS base g [(w.heap.size, 25, [.int .i64 m.kd, .int .i64 m.fr, .int .i64 m.too, .int .i64 m.tm, .int .i64 m.at_, .int .i64 m.att, .int .i64 m.cm, .int .i64 m.rd, .bool false, .slice ea m.es.length ec, .slice da m.dt.length dc])] w w2 v2 (bN 1 [202, m.kd, m.fr, m.too, 0] 5 ++ bN 6 [m.tm, m.at_, m.att, m.cm, m.rd] (0 + 1))) := HB.out.step (by rw [bN_succ 6 [m.tm, m.at_, m.att, m.cm, m.rd] 0 (by simp), ← List.append_assoc]; exact W2) n2 t2
            clear N W2 n2 t2 HB ix
            go_wp2
            go_roundw
            case rel => exact ⟨0 + 1, v2, by go_num, by omega, F.out⟩
            case measure => simp [intOf]
          · have N := wNum_any base g v' _ 0 6 m.at_ wr HB.out.wr (by rw [List.length_append, bN_len 1 (by omega) _ _ (by simp), bN_len 6 (by omega) _ _ (by simp)]; omega)
            rw [wr_6 (n := m.at_) HC.out.2.1.2.1] at N
            have ix : (Instr.index 83 (.agg #[.int .i64 m.tm, .int .i64 m.at_, .int .i64 m.att, .int .i64 m.cm, .int .i64 m.rd]) (.int .i64 1)).run Try.prog wr = .ok (.int .i64 m.at_) wr := by first | rfl | kernel_rfl
            go_wp2_with fail
            refine N.mono ?_
            rintro r w2 ⟨rfl, v2, W2, n2, t2⟩
            have F : Hid (WS base g [(w.heap.size, 25, [.int .i64 m.kd, .int .i64 m.fr, .int .i64 m.too, .int .i64 m.tm, .int .i64 m.at_, .int .i64 m.att, .int .i64 m.cm, .int .i64 m.rd, .bool false, .slice ea m.es.length ec, .slice da m.dt.length dc])] w w2 v2 (bN 1 [202, m.kd, m.fr, m.too, 0] 5 ++ bN 6 [m.tm, m.at_, m.att, m.cm, m.rd] (1 + 1))) := HB.out.step (by rw [bN_succ 6 [m.tm, m.at_, m.att, m.cm, m.rd] 1 (by simp), ← List.append_assoc]; exact W2) n2 t2
            clear N W2 n2 t2 HB ix
            go_wp2
            go_roundw
            case rel => exact ⟨1 + 1, v2, by go_num, by omega, F.out⟩
            case measure => simp [intOf]
          · have N := wNum_any base g v' _ 0 6 m.att wr HB.out.wr (by rw [List.length_append, bN_len 1 (by omega) _ _ (by simp), bN_len 6 (by omega) _ _ (by simp)]; omega)
            rw [wr_6 (n := m.att) HC.out.2.1.2.2.1] at N
            have ix : (Instr.index 83 (.agg #[.int .i64 m.tm, .int .i64 m.at_, .int .i64 m.att, .int .i64 m.cm, .int .i64 m.rd]) (.int .i64 2)).run Try.prog wr = .ok (.int .i64 m.att) wr := by first | rfl | kernel_rfl
            go_wp2_with fail
            refine N.mono ?_
            rintro r w2 ⟨rfl, v2, W2, n2, t2⟩
            have F : Hid (WS base g [(w.heap.size, 25, [.int .i64 m.kd, .int .i64 m.fr, .int .i64 m.too, .int .i64 m.tm, .int .i64 m.at_, .int .i64 m.att, .int .i64 m.cm, .int .i64 m.rd, .bool false, .slice ea m.es.length ec, .slice da m.dt.length dc])] w w2 v2 (bN 1 [202, m.kd, m.fr, m.too, 0] 5 ++ bN 6 [m.tm, m.at_, m.att, m.cm, m.rd] (2 + 1))) := HB.out.step (by rw [bN_succ 6 [m.tm, m.at_, m.att, m.cm, m.rd] 2 (by simp), ← List.append_assoc]; exact W2) n2 t2
            clear N W2 n2 t2 HB ix
            go_wp2
            go_roundw
            case rel => exact ⟨2 + 1, v2, by go_num, by omega, F.out⟩
            case measure => simp [intOf]
          · have N := wNum_any base g v' _ 0 6 m.cm wr HB.out.wr (by rw [List.length_append, bN_len 1 (by omega) _ _ (by simp), bN_len 6 (by omega) _ _ (by simp)]; omega)
            rw [wr_6 (n := m.cm) HC.out.2.1.2.2.2.1] at N
            have ix : (Instr.index 83 (.agg #[.int .i64 m.tm, .int .i64 m.at_, .int .i64 m.att, .int .i64 m.cm, .int .i64 m.rd]) (.int .i64 3)).run Try.prog wr = .ok (.int .i64 m.cm) wr := by first | rfl | kernel_rfl
            go_wp2_with fail
            refine N.mono ?_
            rintro r w2 ⟨rfl, v2, W2, n2, t2⟩
            have F : Hid (WS base g [(w.heap.size, 25, [.int .i64 m.kd, .int .i64 m.fr, .int .i64 m.too, .int .i64 m.tm, .int .i64 m.at_, .int .i64 m.att, .int .i64 m.cm, .int .i64 m.rd, .bool false, .slice ea m.es.length ec, .slice da m.dt.length dc])] w w2 v2 (bN 1 [202, m.kd, m.fr, m.too, 0] 5 ++ bN 6 [m.tm, m.at_, m.att, m.cm, m.rd] (3 + 1))) := HB.out.step (by rw [bN_succ 6 [m.tm, m.at_, m.att, m.cm, m.rd] 3 (by simp), ← List.append_assoc]; exact W2) n2 t2
            clear N W2 n2 t2 HB ix
            go_wp2
            go_roundw
            case rel => exact ⟨3 + 1, v2, by go_num, by omega, F.out⟩
            case measure => simp [intOf]
          · have N := wNum_any base g v' _ 0 6 m.rd wr HB.out.wr (by rw [List.length_append, bN_len 1 (by omega) _ _ (by simp), bN_len 6 (by omega) _ _ (by simp)]; omega)
            rw [wr_6 (n := m.rd) HC.out.2.1.2.2.2.2] at N
            have ix : (Instr.index 83 (.agg #[.int .i64 m.tm, .int .i64 m.at_, .int .i64 m.att, .int .i64 m.cm, .int .i64 m.rd]) (.int .i64 4)).run Try.prog wr = .ok (.int .i64 m.rd) wr := by first | rfl | kernel_rfl
            go_wp2_with fail
            refine N.mono ?_
            rintro r w2 ⟨rfl, v2, W2, n2, t2⟩
            have F : Hid (WS base g [(w.heap.size, 25, [.int .i64 m.kd, .int .i64 m.fr, .int .i64 m.too, .int .i64 m.tm, .int .i64 m.at_, .int .i64 m.att, .int .i64 m.cm, .int .i64 m.rd, .bool false, .slice ea m.es.length ec, .slice da m.dt.length dc])] w w2 v2 (bN 1 [202, m.kd, m.fr, m.too, 0] 5 ++ bN 6 [m.tm, m.at_, m.att, m.cm, m.rd] (4 + 1))) := HB.out.step (by rw [bN_succ 6 [m.tm, m.at_, m.att, m.cm, m.rd] 4 (by simp), ← List.append_assoc]; exact W2) n2 t2
            clear N W2 n2 t2 HB ix
            go_wp2
            go_roundw
            case rel => exact ⟨4 + 1, v2, by go_num, by omega, F.out⟩
            case measure => simp [intOf]
          · rw [show ((5 : Nat) : Int) = 5 from rfl]
            obtain ⟨Q, hQ⟩ : ∃ Q, Q = bN 1 [202, m.kd, m.fr, m.too, 0] 5 ++ bN 6 [m.tm, m.at_, m.att, m.cm, m.rd] 5 := ⟨_, rfl⟩
            have hQl : Q.length = 35 := by rw [hQ, List.length_append, bN_len 1 (by omega) _ _ (by simp), bN_len 6 (by omega) _ _ (by simp)]
            have HQ : Hid (Q = bN 1 [202, m.kd, m.fr, m.too, 0] 5 ++ bN 6 [m.tm, m.at_, m.att, m.cm, m.rd] 5) := hQ
            rw [← hQ] at HB
            have N := wNum_any base g v' Q 0 2 m.es.length wr HB.out.wr (by omega)
            rw [wr_2 (by omega) (by omega)] at N
            obtain ⟨c0, c1, c2, c3, c4, c5, c6, c7, c8, c9, c10⟩ := eblk11 (HB.out.bx _ (List.mem_singleton.2 rfl))
            clear hQ HB2
            go_wp2_with fail
            clear c0 c1 c2 c3 c4 c5 c6 c7 c8 c9 c10
            refine N.mono ?_
            rintro r w3 ⟨rfl, v3, W3, n3, t3⟩
            obtain ⟨Q2, hQ2⟩ : ∃ Q2, Q2 = Q ++ be 2 (BitVec.ofInt 64 m.es.length) := ⟨_, rfl⟩
            have hQ2l : Q2.length = 37 := by rw [hQ2, List.length_append, hQl, be_length _ _ (by omega)]
            have HQ2 : Hid (Q2 = Q ++ be 2 (BitVec.ofInt 64 m.es.length)) := hQ2
            rw [← hQ2] at W3
            have HB3 : Hid (WS base g [(w.heap.size, 25, [.int .i64 m.kd, .int .i64 m.fr, .int .i64 m.too, .int .i64 m.tm, .int .i64 m.at_, .int .i64 m.att, .int .i64 m.cm, .int .i64 m.rd, .bool false, .slice ea m.es.length ec, .slice da m.dt.length dc])] w w3 v3 (Q2 ++ pks m.es 0)) := (show Q2 = Q2 ++ pks m.es 0 from (List.append_nil _).symm) ▸ HB.out.step W3 n3 t3
            obtain ⟨c0, c1, c2, c3, c4, c5, c6, c7, c8, c9, c10⟩ := eblk11 (HB3.out.bx _ (List.mem_singleton.2 rfl))
            clear N W3 n3 t3 HB hQ2
            go_wp2_with fail
            clear c0 c1 c2 c3 c4 c5 c6 c7 c8 c9 c10
            go_loopw [47] (fun iv wr => ∃ (i : Nat) (v' : Value), iv = .int .i64 i ∧ i ≤ m.es.length ∧ WS base g [(w.heap.size, 25, [.int .i64 m.kd, .int .i64 m.fr, .int .i64 m.too, .int .i64 m.tm, .int .i64 m.at_, .int .i64 m.att, .int .i64 m.cm, .int .i64 m.rd, .bool false, .slice ea m.es.length ec, .slice da m.dt.length dc])] w wr v' (Q2 ++ pks m.es i)) (fun iv _ => m.es.length - (intOf iv).toNat)
            case atStart => exact ⟨0, v3, rfl, by omega, HB3.out⟩
            case round =>
              obtain ⟨i, v', rfl, hi, hb⟩ := hrel
              have HB : Hid (WS base g [(w.heap.size, 25, [.int .i64 m.kd, .int .i64 m.fr, .int .i64 m.too, .int .i64 m.tm, .int .i64 m.at_, .int .i64 m.att, .int .i64 m.cm, .int .i64 m.rd, .bool false, .slice ea m.es.length ec, .slice da m.dt.length dc])] w wr v' (Q2 ++ pks m.es i)) := hb
              have hpl := pks_len m.es HC.out.2.2 i hi
              clear hb
              by_cases hlt : i < m.es.length
              · have hlt' : (i : Int) < (m.es.length : Int) := by omega
                obtain ⟨p, off, rfl, hAt0⟩ := EArgs.at HRw.out.1 i hlt
                have bW := HRw.out.2.2.2.trans (HB.out.bl.mono HRw.out.2.2.1)
                obtain ⟨g1, g2, ⟨x, cx, g3, g4, h5, h6⟩, h7, h7', h8⟩ := hAt0
                have h1 := cell_later bW g1
                have h2 := cell_later bW g2
                have h3 := cell_later bW g3
                have hrow : Hid (∀ W, Below base w W → Row W x (m.es[i]).2.2) := fun W hW => g4.later (HRw.out.2.2.2.trans (hW.mono HRw.out.2.2.1))
                have hce : Hid (canE (m.es[i].1, m.es[i].2.1, m.es[i].2.2) = true) := HC.out.2.2 m.es[i] (List.getElem_mem _)
                have hps : Hid (pks m.es (i + 1) = pks m.es i ++ packE (m.es[i].1, m.es[i].2.1, m.es[i].2.2)) := pks_succ m.es i hlt
                clear bW g1 g2 g3 g4
                generalize (m.es[i]).1 = ek at *
                generalize (m.es[i]).2.1 = et at *
                generalize (m.es[i]).2.2 = el at *
                have b5 := box3_below wr (.int .i64 ek) (.int .i64 et) (.slice x el.length cx) 49
                have H5 : Hid _ := HB.out.later b5
                clear b5
                go_wp2_with fail
                generalize wr.alloc (.cells #[.int .i64 ek, .int .i64 et, .slice x el.length cx] 49) = w5 at *
                have N := wrEntry_turn base g v' (Q2 ++ pks m.es i) ek et el x cx w5 hce.out H5.out.wr (by rw [List.length_append]; omega) h5 h6 (fun W hW => hrow.out W (H5.out.bl.trans hW))
                clear h1 h2 h3
                refine N.mono ?_
                rintro r w6 ⟨rfl, v6, W6, n6, t6⟩
                have F : Hid _ := H5.out.step (L' := Q2 ++ pks m.es (i + 1)) (by rw [hps.out, ← List.append_assoc]; exact W6) n6 t6
                clear N W6 n6 t6 H5 HB
                go_wp2
                go_roundw
                case rel => exact ⟨i + 1, v6, by go_num, by omega, F.out⟩
                case measure => simp [intOf]; omega
              · have he : i = m.es.length := by omega
                have HB4 : Hid (WS base g [(w.heap.size, 25, [.int .i64 m.kd, .int .i64 m.fr, .int .i64 m.too, .int .i64 m.tm, .int .i64 m.at_, .int .i64 m.att, .int .i64 m.cm, .int .i64 m.rd, .bool false, .slice ea m.es.length ec, .slice da m.dt.length dc])] w wr v' (Q2 ++ pks m.es m.es.length)) := he ▸ HB.out
                have hlen : (Q2 ++ pks m.es m.es.length).length + 65544 ≤ 140737488351232 := by rw [← he, List.length_append]; omega
                have hown := HB.out.own
                have N := wBytes_ok4 base g v' _ da m.dt.length dc m.dt wr HB4.out.wr hlen rfl hdc hdn hd (fun w' hg => HRw.out.2.1.later (HRw.out.2.2.2.trans ((HB.out.bl.grown hg (Nat.le_trans hbw HB.out.bl.size) (fun j hj => (hown j hj).1)).mono HRw.out.2.2.1)))
                obtain ⟨c0, c1, c2, c3, c4, c5, c6, c7, c8, c9, c10⟩ := eblk11 (HB4.out.bx _ (List.mem_singleton.2 rfl))
                have hnl : ¬ (i : Int) < (m.es.length : Int) := by omega
                clear he hown hlen
                go_wp2_with fail
                clear c0 c1 c2 c3 c4 c5 c6 c7 c8 c9 c10
                refine N.mono ?_
                rintro r w5 ⟨rfl, v5, W5, n5, t5⟩
                have b5 : Below base w w5 := HB4.out.bl.trans (HB4.out.wr.below t5)
                have eL : Q2 ++ pks m.es m.es.length ++ (be 4 (BitVec.ofNat 64 m.dt.length) ++ m.dt) = bodyM m := by unfold bodyM; rw [HQ2.out, HQ.out, ← HE.out]
                have F : Hid (WrAt w5 base g 88 v5 (bodyM m) 0 ∧ Below base w w5) := ⟨eL ▸ W5, b5⟩
                clear N W5 n5 t5 b5 eL HB HB4
                go_wp2
                go_end0
                exact ⟨rfl, v5, F.out.1, F.out.2⟩
  | true =>
    obtain rfl : y = 1 := by rw [hy]; rfl
    have HE : Hid (1 = yesN m) := HY.out.1
    clear hy
    go_enter Try.func17, Try.ntmps17
    go_wp2_with fail
    generalize (w.alloc (.cells #[.int .i64 m.kd, .int .i64 m.fr, .int .i64 m.too, .int .i64 m.tm, .int .i64 m.at_, .int .i64 m.att, .int .i64 m.cm, .int .i64 m.rd, .bool true, .slice ea m.es.length ec, .slice da m.dt.length dc] 25)).alloc (.cells #[.int .i64 202, .int .i64 m.kd, .int .i64 m.fr, .int .i64 m.too, .int .i64 1] 3) = wb at *
    clear c0 c1 c2 c3 c4 c5 c6 c7 c8 c9 c10
    go_loopw [22] (fun iv wr => ∃ (i : Nat) (v' : Value), iv = .int .i64 i ∧ i ≤ 5 ∧ WS base g [(w.heap.size, 25, [.int .i64 m.kd, .int .i64 m.fr, .int .i64 m.too, .int .i64 m.tm, .int .i64 m.at_, .int .i64 m.att, .int .i64 m.cm, .int .i64 m.rd, .bool true, .slice ea m.es.length ec, .slice da m.dt.length dc]), (w.heap.size + 1, 3, [.int .i64 202, .int .i64 m.kd, .int .i64 m.fr, .int .i64 m.too, .int .i64 1])] w wr v' (bN 1 [202, m.kd, m.fr, m.too, 1] i)) (fun iv _ => 5 - (intOf iv).toNat)
    case atStart => exact ⟨0, v, rfl, by omega, H0.out⟩
    case round =>
      obtain ⟨i, v', rfl, hi, hb⟩ := hrel
      have HB : Hid (WS base g [(w.heap.size, 25, [.int .i64 m.kd, .int .i64 m.fr, .int .i64 m.too, .int .i64 m.tm, .int .i64 m.at_, .int .i64 m.att, .int .i64 m.cm, .int .i64 m.rd, .bool true, .slice ea m.es.length ec, .slice da m.dt.length dc]), (w.heap.size + 1, 3, [.int .i64 202, .int .i64 m.kd, .int .i64 m.fr, .int .i64 m.too, .int .i64 1])] w wr v' (bN 1 [202, m.kd, m.fr, m.too, 1] i)) := hb
      clear hb
      rcases (show i = 0 ∨ i = 1 ∨ i = 2 ∨ i = 3 ∨ i = 4 ∨ i = 5 by omega) with rfl | rfl | rfl | rfl | rfl | rfl
      · have N := wNum_any base g v' _ 0 1 202 wr HB.out.wr (by rw [bN_len 1 (by omega) _ _ (by simp)]; omega)
        rw [wr_1 (n := 202) (by omega) (by omega)] at N
        obtain ⟨⟨d0, d1, d2, d3, d4⟩, -⟩ := eblk5 (HB.out.bx _ (List.mem_cons_of_mem _ (List.mem_singleton.2 rfl)))
        go_wp2_with fail
        clear d0 d1 d2 d3 d4
        refine N.mono ?_
        rintro r w2 ⟨rfl, v2, W2, n2, t2⟩
        have F : Hid (WS base g [(w.heap.size, 25, [.int .i64 m.kd, .int .i64 m.fr, .int .i64 m.too, .int .i64 m.tm, .int .i64 m.at_, .int .i64 m.att, .int .i64 m.cm, .int .i64 m.rd, .bool true, .slice ea m.es.length ec, .slice da m.dt.length dc]), (w.heap.size + 1, 3, [.int .i64 202, .int .i64 m.kd, .int .i64 m.fr, .int .i64 m.too, .int .i64 1])] w w2 v2 (bN 1 [202, m.kd, m.fr, m.too, 1] (0 + 1))) := HB.out.step (by rw [bN_succ 1 [202, m.kd, m.fr, m.too, 1] 0 (by simp)]; exact W2) n2 t2
        clear N W2 n2 t2 HB
        go_wp2
        go_roundw
        case rel => exact ⟨0 + 1, v2, by go_num, by omega, F.out⟩
        case measure => simp [intOf]
      · have N := wNum_any base g v' _ 0 1 m.kd wr HB.out.wr (by rw [bN_len 1 (by omega) _ _ (by simp)]; omega)
        rw [wr_1 (n := m.kd) (of_decide_eq_true HC.out.1.1).1 (of_decide_eq_true HC.out.1.1).2] at N
        obtain ⟨⟨d0, d1, d2, d3, d4⟩, -⟩ := eblk5 (HB.out.bx _ (List.mem_cons_of_mem _ (List.mem_singleton.2 rfl)))
        go_wp2_with fail
        clear d0 d1 d2 d3 d4
        refine N.mono ?_
        rintro r w2 ⟨rfl, v2, W2, n2, t2⟩
        have F : Hid (WS base g [(w.heap.size, 25, [.int .i64 m.kd, .int .i64 m.fr, .int .i64 m.too, .int .i64 m.tm, .int .i64 m.at_, .int .i64 m.att, .int .i64 m.cm, .int .i64 m.rd, .bool true, .slice ea m.es.length ec, .slice da m.dt.length dc]), (w.heap.size + 1, 3, [.int .i64 202, .int .i64 m.kd, .int .i64 m.fr, .int .i64 m.too, .int .i64 1])] w w2 v2 (bN 1 [202, m.kd, m.fr, m.too, 1] (1 + 1))) := HB.out.step (by rw [bN_succ 1 [202, m.kd, m.fr, m.too, 1] 1 (by simp)]; exact W2) n2 t2
        clear N W2 n2 t2 HB
        go_wp2
        go_roundw
        case rel => exact ⟨1 + 1, v2, by go_num, by omega, F.out⟩
        case measure => simp [intOf]
      · have N := wNum_any base g v' _ 0 1 m.fr wr HB.out.wr (by rw [bN_len 1 (by omega) _ _ (by simp)]; omega)
        rw [wr_1 (n := m.fr) (of_decide_eq_true HC.out.1.2.1).1 (of_decide_eq_true HC.out.1.2.1).2] at N
        obtain ⟨⟨d0, d1, d2, d3, d4⟩, -⟩ := eblk5 (HB.out.bx _ (List.mem_cons_of_mem _ (List.mem_singleton.2 rfl)))
        go_wp2_with fail
        clear d0 d1 d2 d3 d4
        refine N.mono ?_
        rintro r w2 ⟨rfl, v2, W2, n2, t2⟩
        have F : Hid (WS base g [(w.heap.size, 25, [.int .i64 m.kd, .int .i64 m.fr, .int .i64 m.too, .int .i64 m.tm, .int .i64 m.at_, .int .i64 m.att, .int .i64 m.cm, .int .i64 m.rd, .bool true, .slice ea m.es.length ec, .slice da m.dt.length dc]), (w.heap.size + 1, 3, [.int .i64 202, .int .i64 m.kd, .int .i64 m.fr, .int .i64 m.too, .int .i64 1])] w w2 v2 (bN 1 [202, m.kd, m.fr, m.too, 1] (2 + 1))) := HB.out.step (by rw [bN_succ 1 [202, m.kd, m.fr, m.too, 1] 2 (by simp)]; exact W2) n2 t2
        clear N W2 n2 t2 HB
        go_wp2
        go_roundw
        case rel => exact ⟨2 + 1, v2, by go_num, by omega, F.out⟩
        case measure => simp [intOf]
      · have N := wNum_any base g v' _ 0 1 m.too wr HB.out.wr (by rw [bN_len 1 (by omega) _ _ (by simp)]; omega)
        rw [wr_1 (n := m.too) (of_decide_eq_true HC.out.1.2.2).1 (of_decide_eq_true HC.out.1.2.2).2] at N
        obtain ⟨⟨d0, d1, d2, d3, d4⟩, -⟩ := eblk5 (HB.out.bx _ (List.mem_cons_of_mem _ (List.mem_singleton.2 rfl)))
        go_wp2_with fail
        clear d0 d1 d2 d3 d4
        refine N.mono ?_
        rintro r w2 ⟨rfl, v2, W2, n2, t2⟩
        have F : Hid (WS base g [(w.heap.size, 25, [.int .i64 m.kd, .int .i64 m.fr, .int .i64 m.too, .int .i64 m.tm, .int .i64 m.at_, .int .i64 m.att, .int .i64 m.cm, .int .i64 m.rd, .bool true, .slice ea m.es.length ec, .slice da m.dt.length dc]), (w.heap.size + 1, 3, [.int .i64 202, .int .i64 m.kd, .int .i64 m.fr, .int .i64 m.too, .int .i64 1])] w w2 v2 (bN 1 [202, m.kd, m.fr, m.too, 1] (3 + 1))) := HB.out.step (by rw [bN_succ 1 [202, m.kd, m.fr, m.too, 1] 3 (by simp)]; exact W2) n2 t2
        clear N W2 n2 t2 HB
        go_wp2
        go_roundw
        case rel => exact ⟨3 + 1, v2, by go_num, by omega, F.out⟩
        case measure => simp [intOf]
      · have N := wNum_any base g v' _ 0 1 1 wr HB.out.wr (by rw [bN_len 1 (by omega) _ _ (by simp)]; omega)
        rw [wr_1 (n := 1) HY.out.2.1 HY.out.2.2] at N
        obtain ⟨⟨d0, d1, d2, d3, d4⟩, -⟩ := eblk5 (HB.out.bx _ (List.mem_cons_of_mem _ (List.mem_singleton.2 rfl)))
        go_wp2_with fail
        clear d0 d1 d2 d3 d4
        refine N.mono ?_
        rintro r w2 ⟨rfl, v2, W2, n2, t2⟩
        have F : Hid (WS base g [(w.heap.size, 25, [.int .i64 m.kd, .int .i64 m.fr, .int .i64 m.too, .int .i64 m.tm, .int .i64 m.at_, .int .i64 m.att, .int .i64 m.cm, .int .i64 m.rd, .bool true, .slice ea m.es.length ec, .slice da m.dt.length dc]), (w.heap.size + 1, 3, [.int .i64 202, .int .i64 m.kd, .int .i64 m.fr, .int .i64 m.too, .int .i64 1])] w w2 v2 (bN 1 [202, m.kd, m.fr, m.too, 1] (4 + 1))) := HB.out.step (by rw [bN_succ 1 [202, m.kd, m.fr, m.too, 1] 4 (by simp)]; exact W2) n2 t2
        clear N W2 n2 t2 HB
        go_wp2
        go_roundw
        case rel => exact ⟨4 + 1, v2, by go_num, by omega, F.out⟩
        case measure => simp [intOf]
      · rw [show ((5 : Nat) : Int) = 5 from rfl]
        have HB1 : Hid (WS base g [(w.heap.size, 25, [.int .i64 m.kd, .int .i64 m.fr, .int .i64 m.too, .int .i64 m.tm, .int .i64 m.at_, .int .i64 m.att, .int .i64 m.cm, .int .i64 m.rd, .bool true, .slice ea m.es.length ec, .slice da m.dt.length dc])] w wr v' (bN 1 [202, m.kd, m.fr, m.too, 1] 5)) := HB.out.less (fun b hb => by rw [List.mem_singleton] at hb; subst hb; exact List.mem_cons_self)
        obtain ⟨c0, c1, c2, c3, c4, c5, c6, c7, c8, c9, c10⟩ := eblk11 (HB1.out.bx _ (List.mem_singleton.2 rfl))
        have N1 : Calls Try.prog 43 #[.agg #[.int .i64 m.kd, .int .i64 m.fr, .int .i64 m.too, .int .i64 m.tm, .int .i64 m.at_, .int .i64 m.att, .int .i64 m.cm, .int .i64 m.rd, .bool true, .slice ea m.es.length ec, .slice da m.dt.length dc]] wr fun r w' => r = .returned (.agg #[.int .i64 m.tm, .int .i64 m.at_, .int .i64 m.att, .int .i64 m.cm, .int .i64 m.rd]) ∧ Below wr.heap.size wr w' := numbersOf_any { m with yes := true } ea ec da dc wr
        clear HB H0
        go_wp2_with fail
        clear c0 c1 c2 c3 c4 c5 c6 c7 c8 c9 c10
        refine N1.mono ?_
        rintro r w2 ⟨rfl, b2⟩
        have HB2 : Hid (WS base g [(w.heap.size, 25, [.int .i64 m.kd, .int .i64 m.fr, .int .i64 m.too, .int .i64 m.tm, .int .i64 m.at_, .int .i64 m.att, .int .i64 m.cm, .int .i64 m.rd, .bool true, .slice ea m.es.length ec, .slice da m.dt.length dc])] w w2 v' (bN 1 [202, m.kd, m.fr, m.too, 1] 5 ++ bN 6 [m.tm, m.at_, m.att, m.cm, m.rd] 0)) := (show bN 1 [202, m.kd, m.fr, m.too, 1] 5 = bN 1 [202, m.kd, m.fr, m.too, 1] 5 ++ bN 6 [m.tm, m.at_, m.att, m.cm, m.rd] 0 from (List.append_nil _).symm) ▸ HB1.out.later b2
        clear N1 b2 HB1
        go_wp2_with fail
        go_loopw [32] (fun iv wr => ∃ (i : Nat) (v' : Value), iv = .int .i64 i ∧ i ≤ 5 ∧ WS base g [(w.heap.size, 25, [.int .i64 m.kd, .int .i64 m.fr, .int .i64 m.too, .int .i64 m.tm, .int .i64 m.at_, .int .i64 m.att, .int .i64 m.cm, .int .i64 m.rd, .bool true, .slice ea m.es.length ec, .slice da m.dt.length dc])] w wr v' (bN 1 [202, m.kd, m.fr, m.too, 1] 5 ++ bN 6 [m.tm, m.at_, m.att, m.cm, m.rd] i)) (fun iv _ => 5 - (intOf iv).toNat)
        case atStart => exact ⟨0, v', rfl, by omega, HB2.out⟩
        case round =>
          obtain ⟨i, v', rfl, hi, hb⟩ := hrel
          have HB : Hid (WS base g [(w.heap.size, 25, [.int .i64 m.kd, .int .i64 m.fr, .int .i64 m.too, .int .i64 m.tm, .int .i64 m.at_, .int .i64 m.att, .int .i64 m.cm, .int .i64 m.rd, .bool true, .slice ea m.es.length ec, .slice da m.dt.length dc])] w wr v' (bN 1 [202, m.kd, m.fr, m.too, 1] 5 ++ bN 6 [m.tm, m.at_, m.att, m.cm, m.rd] i)) := hb
          clear hb
          rcases (show i = 0 ∨ i = 1 ∨ i = 2 ∨ i = 3 ∨ i = 4 ∨ i = 5 by omega) with rfl | rfl | rfl | rfl | rfl | rfl
          · have N := wNum_any base g v' _ 0 6 m.tm wr HB.out.wr (by rw [List.length_append, bN_len 1 (by omega) _ _ (by simp), bN_len 6 (by omega) _ _ (by simp)]; omega)
            rw [wr_6 (n := m.tm) HC.out.2.1.1] at N
            have ix : (Instr.index 83 (.agg #[.int .i64 m.tm, .int .i64 m.at_, .int .i64 m.att, .int .i64 m.cm, .int .i64 m.rd]) (.int .i64 0)).run Try.prog wr = .ok (.int .i64 m.tm) wr := by first | rfl | kernel_rfl
            go_wp2_with fail
            refine N.mono ?_
            rintro r w2 ⟨rfl, v2, W2, n2, t2⟩
            have F : Hid (WS base g [(w.heap.size, 25, [.int .i64 m.kd, .int .i64 m.fr, .int .i64 m.too, .int .i64 m.tm, .int .i64 m.at_, .int .i64 m.att, .int .i64 m.cm, .int .i64 m.rd, .bool true, .slice ea m.es.length ec, .slice da m.dt.length dc])] w w2 v2 (bN 1 [202, m.kd, m.fr, m.too, 1] 5 ++ bN 6 [m.tm, m.at_, m.att, m.cm, m.rd] (0 + 1))) := HB.out.step (by rw [bN_succ 6 [m.tm, m.at_, m.att, m.cm, m.rd] 0 (by simp), ← List.append_assoc]; exact W2) n2 t2
            clear N W2 n2 t2 HB ix
            go_wp2
            go_roundw
            case rel => exact ⟨0 + 1, v2, by go_num, by omega, F.out⟩
            case measure => simp [intOf]
          · have N := wNum_any base g v' _ 0 6 m.at_ wr HB.out.wr (by rw [List.length_append, bN_len 1 (by omega) _ _ (by simp), bN_len 6 (by omega) _ _ (by simp)]; omega)
            rw [wr_6 (n := m.at_) HC.out.2.1.2.1] at N
            have ix : (Instr.index 83 (.agg #[.int .i64 m.tm, .int .i64 m.at_, .int .i64 m.att, .int .i64 m.cm, .int .i64 m.rd]) (.int .i64 1)).run Try.prog wr = .ok (.int .i64 m.at_) wr := by first | rfl | kernel_rfl
            go_wp2_with fail
            refine N.mono ?_
            rintro r w2 ⟨rfl, v2, W2, n2, t2⟩
            have F : Hid (WS base g [(w.heap.size, 25, [.int .i64 m.kd, .int .i64 m.fr, .int .i64 m.too, .int .i64 m.tm, .int .i64 m.at_, .int .i64 m.att, .int .i64 m.cm, .int .i64 m.rd, .bool true, .slice ea m.es.length ec, .slice da m.dt.length dc])] w w2 v2 (bN 1 [202, m.kd, m.fr, m.too, 1] 5 ++ bN 6 [m.tm, m.at_, m.att, m.cm, m.rd] (1 + 1))) := HB.out.step (by rw [bN_succ 6 [m.tm, m.at_, m.att, m.cm, m.rd] 1 (by simp), ← List.append_assoc]; exact W2) n2 t2
            clear N W2 n2 t2 HB ix
            go_wp2
            go_roundw
            case rel => exact ⟨1 + 1, v2, by go_num, by omega, F.out⟩
            case measure => simp [intOf]
          · have N := wNum_any base g v' _ 0 6 m.att wr HB.out.wr (by rw [List.length_append, bN_len 1 (by omega) _ _ (by simp), bN_len 6 (by omega) _ _ (by simp)]; omega)
            rw [wr_6 (n := m.att) HC.out.2.1.2.2.1] at N
            have ix : (Instr.index 83 (.agg #[.int .i64 m.tm, .int .i64 m.at_, .int .i64 m.att, .int .i64 m.cm, .int .i64 m.rd]) (.int .i64 2)).run Try.prog wr = .ok (.int .i64 m.att) wr := by first | rfl | kernel_rfl
            go_wp2_with fail
            refine N.mono ?_
            rintro r w2 ⟨rfl, v2, W2, n2, t2⟩
            have F : Hid (WS base g [(w.heap.size, 25, [.int .i64 m.kd, .int .i64 m.fr, .int .i64 m.too, .int .i64 m.tm, .int .i64 m.at_, .int .i64 m.att, .int .i64 m.cm, .int .i64 m.rd, .bool true, .slice ea m.es.length ec, .slice da m.dt.length dc])] w w2 v2 (bN 1 [202, m.kd, m.fr, m.too, 1] 5 ++ bN 6 [m.tm, m.at_, m.att, m.cm, m.rd] (2 + 1))) := HB.out.step (by rw [bN_succ 6 [m.tm, m.at_, m.att, m.cm, m.rd] 2 (by simp), ← List.append_assoc]; exact W2) n2 t2
            clear N W2 n2 t2 HB ix
            go_wp2
            go_roundw
            case rel => exact ⟨2 + 1, v2, by go_num, by omega, F.out⟩
            case measure => simp [intOf]
          · have N := wNum_any base g v' _ 0 6 m.cm wr HB.out.wr (by rw [List.length_append, bN_len 1 (by omega) _ _ (by simp), bN_len 6 (by omega) _ _ (by simp)]; omega)
            rw [wr_6 (n := m.cm) HC.out.2.1.2.2.2.1] at N
            have ix : (Instr.index 83 (.agg #[.int .i64 m.tm, .int .i64 m.at_, .int .i64 m.att, .int .i64 m.cm, .int .i64 m.rd]) (.int .i64 3)).run Try.prog wr = .ok (.int .i64 m.cm) wr := by first | rfl | kernel_rfl
            go_wp2_with fail
            refine N.mono ?_
            rintro r w2 ⟨rfl, v2, W2, n2, t2⟩
            have F : Hid (WS base g [(w.heap.size, 25, [.int .i64 m.kd, .int .i64 m.fr, .int .i64 m.too, .int .i64 m.tm, .int .i64 m.at_, .int .i64 m.att, .int .i64 m.cm, .int .i64 m.rd, .bool true, .slice ea m.es.length ec, .slice da m.dt.length dc])] w w2 v2 (bN 1 [202, m.kd, m.fr, m.too, 1] 5 ++ bN 6 [m.tm, m.at_, m.att, m.cm, m.rd] (3 + 1))) := HB.out.step (by rw [bN_succ 6 [m.tm, m.at_, m.att, m.cm, m.rd] 3 (by simp), ← List.append_assoc]; exact W2) n2 t2
            clear N W2 n2 t2 HB ix
            go_wp2
            go_roundw
            case rel => exact ⟨3 + 1, v2, by go_num, by omega, F.out⟩
            case measure => simp [intOf]
          · have N := wNum_any base g v' _ 0 6 m.rd wr HB.out.wr (by rw [List.length_append, bN_len 1 (by omega) _ _ (by simp), bN_len 6 (by omega) _ _ (by simp)]; omega)
            rw [wr_6 (n := m.rd) HC.out.2.1.2.2.2.2] at N
            have ix : (Instr.index 83 (.agg #[.int .i64 m.tm, .int .i64 m.at_, .int .i64 m.att, .int .i64 m.cm, .int .i64 m.rd]) (.int .i64 4)).run Try.prog wr = .ok (.int .i64 m.rd) wr := by first | rfl | kernel_rfl
            go_wp2_with fail
            refine N.mono ?_
            rintro r w2 ⟨rfl, v2, W2, n2, t2⟩
            have F : Hid (WS base g [(w.heap.size, 25, [.int .i64 m.kd, .int .i64 m.fr, .int .i64 m.too, .int .i64 m.tm, .int .i64 m.at_, .int .i64 m.att, .int .i64 m.cm, .int .i64 m.rd, .bool true, .slice ea m.es.length ec, .slice da m.dt.length dc])] w w2 v2 (bN 1 [202, m.kd, m.fr, m.too, 1] 5 ++ bN 6 [m.tm, m.at_, m.att, m.cm, m.rd] (4 + 1))) := HB.out.step (by rw [bN_succ 6 [m.tm, m.at_, m.att, m.cm, m.rd] 4 (by simp), ← List.append_assoc]; exact W2) n2 t2
            clear N W2 n2 t2 HB ix
            go_wp2
            go_roundw
            case rel => exact ⟨4 + 1, v2, by go_num, by omega, F.out⟩
            case measure => simp [intOf]
          · rw [show ((5 : Nat) : Int) = 5 from rfl]
            obtain ⟨Q, hQ⟩ : ∃ Q, Q = bN 1 [202, m.kd, m.fr, m.too, 1] 5 ++ bN 6 [m.tm, m.at_, m.att, m.cm, m.rd] 5 := ⟨_, rfl⟩
            have hQl : Q.length = 35 := by rw [hQ, List.length_append, bN_len 1 (by omega) _ _ (by simp), bN_len 6 (by omega) _ _ (by simp)]
            have HQ : Hid (Q = bN 1 [202, m.kd, m.fr, m.too, 1] 5 ++ bN 6 [m.tm, m.at_, m.att, m.cm, m.rd] 5) := hQ
            rw [← hQ] at HB
            have N := wNum_any base g v' Q 0 2 m.es.length wr HB.out.wr (by omega)
            rw [wr_2 (by omega) (by omega)] at N
            obtain ⟨c0, c1, c2, c3, c4, c5, c6, c7, c8, c9, c10⟩ := eblk11 (HB.out.bx _ (List.mem_singleton.2 rfl))
            clear hQ HB2
            go_wp2_with fail
            clear c0 c1 c2 c3 c4 c5 c6 c7 c8 c9 c10
            refine N.mono ?_
            rintro r w3 ⟨rfl, v3, W3, n3, t3⟩
            obtain ⟨Q2, hQ2⟩ : ∃ Q2, Q2 = Q ++ be 2 (BitVec.ofInt 64 m.es.length) := ⟨_, rfl⟩
            have hQ2l : Q2.length = 37 := by rw [hQ2, List.length_append, hQl, be_length _ _ (by omega)]
            have HQ2 : Hid (Q2 = Q ++ be 2 (BitVec.ofInt 64 m.es.length)) := hQ2
            rw [← hQ2] at W3
            have HB3 : Hid (WS base g [(w.heap.size, 25, [.int .i64 m.kd, .int .i64 m.fr, .int .i64 m.too, .int .i64 m.tm, .int .i64 m.at_, .int .i64 m.att, .int .i64 m.cm, .int .i64 m.rd, .bool true, .slice ea m.es.length ec, .slice da m.dt.length dc])] w w3 v3 (Q2 ++ pks m.es 0)) := (show Q2 = Q2 ++ pks m.es 0 from (List.append_nil _).symm) ▸ HB.out.step W3 n3 t3
            obtain ⟨c0, c1, c2, c3, c4, c5, c6, c7, c8, c9, c10⟩ := eblk11 (HB3.out.bx _ (List.mem_singleton.2 rfl))
            clear N W3 n3 t3 HB hQ2
            go_wp2_with fail
            clear c0 c1 c2 c3 c4 c5 c6 c7 c8 c9 c10
            go_loopw [47] (fun iv wr => ∃ (i : Nat) (v' : Value), iv = .int .i64 i ∧ i ≤ m.es.length ∧ WS base g [(w.heap.size, 25, [.int .i64 m.kd, .int .i64 m.fr, .int .i64 m.too, .int .i64 m.tm, .int .i64 m.at_, .int .i64 m.att, .int .i64 m.cm, .int .i64 m.rd, .bool true, .slice ea m.es.length ec, .slice da m.dt.length dc])] w wr v' (Q2 ++ pks m.es i)) (fun iv _ => m.es.length - (intOf iv).toNat)
            case atStart => exact ⟨0, v3, rfl, by omega, HB3.out⟩
            case round =>
              obtain ⟨i, v', rfl, hi, hb⟩ := hrel
              have HB : Hid (WS base g [(w.heap.size, 25, [.int .i64 m.kd, .int .i64 m.fr, .int .i64 m.too, .int .i64 m.tm, .int .i64 m.at_, .int .i64 m.att, .int .i64 m.cm, .int .i64 m.rd, .bool true, .slice ea m.es.length ec, .slice da m.dt.length dc])] w wr v' (Q2 ++ pks m.es i)) := hb
              have hpl := pks_len m.es HC.out.2.2 i hi
              clear hb
              by_cases hlt : i < m.es.length
              · have hlt' : (i : Int) < (m.es.length : Int) := by omega
                obtain ⟨p, off, rfl, hAt0⟩ := EArgs.at HRw.out.1 i hlt
                have bW := HRw.out.2.2.2.trans (HB.out.bl.mono HRw.out.2.2.1)
                obtain ⟨g1, g2, ⟨x, cx, g3, g4, h5, h6⟩, h7, h7', h8⟩ := hAt0
                have h1 := cell_later bW g1
                have h2 := cell_later bW g2
                have h3 := cell_later bW g3
                have hrow : Hid (∀ W, Below base w W → Row W x (m.es[i]).2.2) := fun W hW => g4.later (HRw.out.2.2.2.trans (hW.mono HRw.out.2.2.1))
                have hce : Hid (canE (m.es[i].1, m.es[i].2.1, m.es[i].2.2) = true) := HC.out.2.2 m.es[i] (List.getElem_mem _)
                have hps : Hid (pks m.es (i + 1) = pks m.es i ++ packE (m.es[i].1, m.es[i].2.1, m.es[i].2.2)) := pks_succ m.es i hlt
                clear bW g1 g2 g3 g4
                generalize (m.es[i]).1 = ek at *
                generalize (m.es[i]).2.1 = et at *
                generalize (m.es[i]).2.2 = el at *
                have b5 := box3_below wr (.int .i64 ek) (.int .i64 et) (.slice x el.length cx) 49
                have H5 : Hid _ := HB.out.later b5
                clear b5
                go_wp2_with fail
                generalize wr.alloc (.cells #[.int .i64 ek, .int .i64 et, .slice x el.length cx] 49) = w5 at *
                have N := wrEntry_turn base g v' (Q2 ++ pks m.es i) ek et el x cx w5 hce.out H5.out.wr (by rw [List.length_append]; omega) h5 h6 (fun W hW => hrow.out W (H5.out.bl.trans hW))
                clear h1 h2 h3
                refine N.mono ?_
                rintro r w6 ⟨rfl, v6, W6, n6, t6⟩
                have F : Hid _ := H5.out.step (L' := Q2 ++ pks m.es (i + 1)) (by rw [hps.out, ← List.append_assoc]; exact W6) n6 t6
                clear N W6 n6 t6 H5 HB
                go_wp2
                go_roundw
                case rel => exact ⟨i + 1, v6, by go_num, by omega, F.out⟩
                case measure => simp [intOf]; omega
              · have he : i = m.es.length := by omega
                have HB4 : Hid (WS base g [(w.heap.size, 25, [.int .i64 m.kd, .int .i64 m.fr, .int .i64 m.too, .int .i64 m.tm, .int .i64 m.at_, .int .i64 m.att, .int .i64 m.cm, .int .i64 m.rd, .bool true, .slice ea m.es.length ec, .slice da m.dt.length dc])] w wr v' (Q2 ++ pks m.es m.es.length)) := he ▸ HB.out
                have hlen : (Q2 ++ pks m.es m.es.length).length + 65544 ≤ 140737488351232 := by rw [← he, List.length_append]; omega
                have hown := HB.out.own
                have N := wBytes_ok4 base g v' _ da m.dt.length dc m.dt wr HB4.out.wr hlen rfl hdc hdn hd (fun w' hg => HRw.out.2.1.later (HRw.out.2.2.2.trans ((HB.out.bl.grown hg (Nat.le_trans hbw HB.out.bl.size) (fun j hj => (hown j hj).1)).mono HRw.out.2.2.1)))
                obtain ⟨c0, c1, c2, c3, c4, c5, c6, c7, c8, c9, c10⟩ := eblk11 (HB4.out.bx _ (List.mem_singleton.2 rfl))
                have hnl : ¬ (i : Int) < (m.es.length : Int) := by omega
                clear he hown hlen
                go_wp2_with fail
                clear c0 c1 c2 c3 c4 c5 c6 c7 c8 c9 c10
                refine N.mono ?_
                rintro r w5 ⟨rfl, v5, W5, n5, t5⟩
                have b5 : Below base w w5 := HB4.out.bl.trans (HB4.out.wr.below t5)
                have eL : Q2 ++ pks m.es m.es.length ++ (be 4 (BitVec.ofNat 64 m.dt.length) ++ m.dt) = bodyM m := by unfold bodyM; rw [HQ2.out, HQ.out, ← HE.out]
                have F : Hid (WrAt w5 base g 88 v5 (bodyM m) 0 ∧ Below base w w5) := ⟨eL ▸ W5, b5⟩
                clear N W5 n5 t5 b5 eL HB HB4
                go_wp2
                go_end0
                exact ⟨rfl, v5, F.out.1, F.out.2⟩
end Go.Proofs.Ytgjcgnmomdanaaa

/- A message packed. -/
namespace Go.Proofs.Ytgjcgnmomdanaaa
open Go.RowKit Go.Shelf
set_option linter.unusedVariables false
set_option maxRecDepth 20000

theorem wr_4s (L : List (BitVec 8)) (s : BitVec 32) : wrNum L 0 4 (s.toNat : Int) = (L ++ be 4 (s.setWidth 64), 0) := by
  have hs := s.isLt
  have e : wnE 4 (s.toNat : Int) = 0 := by
    unfold wnE
    rw [if_neg (by decide), if_neg (by decide), if_neg]
    have : ((4 : Int).toNat) = 4 := rfl
    rw [this]
    intro hh
    rcases hh with hh | hh
    · have : (2 : Int) ^ (8 * 4 - 1) = 2147483648 := rfl
      omega
    · have : (2 : Int) ^ (8 * 4) = 4294967296 := rfl
      omega
  unfold wrNum
  rw [if_pos rfl, if_pos e]
  have : BitVec.ofInt 64 (s.toNat : Int) = s.setWidth 64 := by
    apply BitVec.eq_of_toNat_eq
    rw [BitVec.ofInt_natCast, BitVec.toNat_ofNat, BitVec.toNat_setWidth]
  rw [this]; rfl
theorem lenK_ge (m : Mg) (k : Nat) : 45 + m.dt.length ≤ m.lenK k := by
  induction k with
  | zero => exact Nat.le_refl _
  | succ k ih => unfold Mg.lenK; omega
theorem bodyM_len (m : Mg) (hc : ∀ e ∈ m.es, canE e = true) (hl : m.es.length ≤ 4096) (hd : m.dt.length ≤ 65536) : (bodyM m).length ≤ 20000000 := by
  have := pks_len m.es hc m.es.length (Nat.le_refl _)
  unfold bodyM
  simp only [List.length_append, bN_len 1 (by omega) [202, m.kd, m.fr, m.too, yesN m] 5 (by simp), bN_len 6 (by omega) [m.tm, m.at_, m.att, m.cm, m.rd] 5 (by simp), be_length _ _ (show 2 ≤ 8 by omega), be_length _ _ (show 4 ≤ 8 by omega)]
  omega
/-- what PackMsg answers: the error, the bytes -/
def pmE (m : Mg) : Int := if 4096 < m.es.length then 3 else if 65536 < m.lenK m.es.length then 3 else if canM m = true then 0 else 1
def pmB (m : Mg) : List (BitVec 8) := if pmE m = 0 then bodyM m ++ be 4 ((Crc.sum (bodyM m)).setWidth 64) else []
set_option maxHeartbeats 4000000 in
theorem packMsg_any (m : Mg) (ea : Option Addr) (ec : Nat) (da : Option Addr) (dc : Nat) (w : World) (hE : EArgs w ea m.es) (hl : m.es.length ≤ 140737488355328) (hD : Row w da m.dt) (hdl : m.dt.length ≤ 140737488351232) (hdc : m.dt.length ≤ dc) (hdn : da = none → dc = 0) :
    Calls Try.prog 6 #[.agg #[.int .i64 m.kd, .int .i64 m.fr, .int .i64 m.too, .int .i64 m.tm, .int .i64 m.at_, .int .i64 m.att, .int .i64 m.cm, .int .i64 m.rd, .bool m.yes, .slice ea m.es.length ec, .slice da m.dt.length dc]] w fun r w' => ∃ z, r = .returned (.tuple #[z, .int .i64 (pmE m)]) ∧ Own w' w.heap.size z (pmB m) ∧ Below w.heap.size w w' := by
  have b0 := box11_below w #[.int .i64 m.kd, .int .i64 m.fr, .int .i64 m.too, .int .i64 m.tm, .int .i64 m.at_, .int .i64 m.att, .int .i64 m.cm, .int .i64 m.rd, .bool m.yes, .slice ea m.es.length ec, .slice da m.dt.length dc] 25
  have M0 : Blk (w.alloc (.cells #[.int .i64 m.kd, .int .i64 m.fr, .int .i64 m.too, .int .i64 m.tm, .int .i64 m.at_, .int .i64 m.att, .int .i64 m.cm, .int .i64 m.rd, .bool m.yes, .slice ea m.es.length ec, .slice da m.dt.length dc] 25)) w.heap.size 25 [.int .i64 m.kd, .int .i64 m.fr, .int .i64 m.too, .int .i64 m.tm, .int .i64 m.at_, .int .i64 m.att, .int .i64 m.cm, .int .i64 m.rd, .bool m.yes, .slice ea m.es.length ec, .slice da m.dt.length dc] := Blk.new' w _ _
  obtain ⟨c0, c1, c2, c3, c4, c5, c6, c7, c8, c9, c10⟩ := eblk11 M0
  have HA : Hid (EArgs w ea m.es ∧ Row w da m.dt) := ⟨hE, hD⟩
  have H0 : Hid (Below w.heap.size w (w.alloc (.cells #[.int .i64 m.kd, .int .i64 m.fr, .int .i64 m.too, .int .i64 m.tm, .int .i64 m.at_, .int .i64 m.att, .int .i64 m.cm, .int .i64 m.rd, .bool m.yes, .slice ea m.es.length ec, .slice da m.dt.length dc] 25)) ∧ Blk (w.alloc (.cells #[.int .i64 m.kd, .int .i64 m.fr, .int .i64 m.too, .int .i64 m.tm, .int .i64 m.at_, .int .i64 m.att, .int .i64 m.cm, .int .i64 m.rd, .bool m.yes, .slice ea m.es.length ec, .slice da m.dt.length dc] 25)) w.heap.size 25 [.int .i64 m.kd, .int .i64 m.fr, .int .i64 m.too, .int .i64 m.tm, .int .i64 m.at_, .int .i64 m.att, .int .i64 m.cm, .int .i64 m.rd, .bool m.yes, .slice ea m.es.length ec, .slice da m.dt.length dc]) := ⟨b0, M0⟩
  clear b0 M0 hE hD
  by_cases h1 : 4096 < m.es.length
  · have P : Hid (pmE m = 3 ∧ pmB m = []) := by unfold pmB pmE; rw [if_pos h1]; exact ⟨rfl, if_neg (by decide)⟩
    have q1 : (4096 : Int) < (m.es.length : Int) := by omega
    clear h1
    go_enter Try.func6, Try.ntmps6
    go_wp2
    go_ret2
    refine ⟨.slice none 0 0, ?_, ?_, H0.out.1⟩
    · (rw [P.out.1]; try rfl)
    · rw [P.out.2]; exact Own.nil _ _
  · have q1 : ¬ (4096 : Int) < (m.es.length : Int) := by omega
    have hge := lenK_ge m m.es.length
    obtain ⟨N, hN⟩ : ∃ N : Int, N = (m.lenK m.es.length : Int) := ⟨_, rfl⟩
    have HN : Hid (N = (m.lenK m.es.length : Int)) := hN
    have N1 := lengthOf_any m ea ec da dc (w.alloc (.cells #[.int .i64 m.kd, .int .i64 m.fr, .int .i64 m.too, .int .i64 m.tm, .int .i64 m.at_, .int .i64 m.att, .int .i64 m.cm, .int .i64 m.rd, .bool m.yes, .slice ea m.es.length ec, .slice da m.dt.length dc] 25)) (HA.out.1.later H0.out.1) (by omega) hdl
    rw [← hN] at N1
    clear hN
    go_enter Try.func6, Try.ntmps6
    go_wp2_with fail
    generalize w.alloc (.cells #[.int .i64 m.kd, .int .i64 m.fr, .int .i64 m.too, .int .i64 m.tm, .int .i64 m.at_, .int .i64 m.att, .int .i64 m.cm, .int .i64 m.rd, .bool m.yes, .slice ea m.es.length ec, .slice da m.dt.length dc] 25) = wb at *
    clear c0 c1 c2 c3 c4 c5 c6 c7 c8 c9 c10
    refine N1.mono ?_
    rintro r w1 ⟨rfl, b1⟩
    have H1 : Hid (Below w.heap.size w w1 ∧ Blk w1 w.heap.size 25 [.int .i64 m.kd, .int .i64 m.fr, .int .i64 m.too, .int .i64 m.tm, .int .i64 m.at_, .int .i64 m.att, .int .i64 m.cm, .int .i64 m.rd, .bool m.yes, .slice ea m.es.length ec, .slice da m.dt.length dc]) := ⟨below_then H0.out.1 b1, H0.out.2.laterB b1⟩
    clear H0 N1 b1
    by_cases h2 : 65536 < N
    · have P : Hid (pmE m = 3 ∧ pmB m = []) := by
        have := HN.out
        have e : pmE m = 3 := by unfold pmE; rw [if_neg h1, if_pos (by omega)]
        exact ⟨e, by unfold pmB; rw [e]; exact if_neg (by decide)⟩
      go_wp2
      go_ret2
      refine ⟨.slice none 0 0, ?_, ?_, H1.out.1⟩
      · (rw [P.out.1]; try rfl)
      · rw [P.out.2]; exact Own.nil _ _
    · have hd6 : m.dt.length ≤ 65536 := by have := HN.out; omega
      have N2 := canBeSent_any m ea ec da dc w1 (HA.out.1.later H1.out.1) hl
      obtain ⟨c0, c1, c2, c3, c4, c5, c6, c7, c8, c9, c10⟩ := eblk11 H1.out.2
      have hP : pmE m = if canM m = true then 0 else 1 := by
        have := HN.out
        unfold pmE; rw [if_neg h1, if_neg (by omega)]
      have HP : Hid (pmE m = if canM m = true then 0 else 1) := hP
      have hl4 : m.es.length ≤ 4096 := by omega
      clear hP h1 hge
      go_wp2_with fail
      clear c0 c1 c2 c3 c4 c5 c6 c7 c8 c9 c10
      refine N2.mono ?_
      rintro r w2 ⟨rfl, b2⟩
      have H2 : Hid (Below w.heap.size w w2 ∧ Blk w2 w.heap.size 25 [.int .i64 m.kd, .int .i64 m.fr, .int .i64 m.too, .int .i64 m.tm, .int .i64 m.at_, .int .i64 m.att, .int .i64 m.cm, .int .i64 m.rd, .bool m.yes, .slice ea m.es.length ec, .slice da m.dt.length dc]) := ⟨below_then H1.out.1 b2, H1.out.2.laterB b2⟩
      clear H1 N2 b2
      cases hcm : canM m with
      | false =>
        have P : Hid (pmE m = 1 ∧ pmB m = []) := by
          have e : pmE m = 1 := by rw [HP.out, hcm]; rfl
          exact ⟨e, by unfold pmB; rw [e]; exact if_neg (by decide)⟩
        clear hcm
        go_wp2
        go_ret2
        refine ⟨.slice none 0 0, ?_, ?_, H2.out.1⟩
        · (rw [P.out.1]; try rfl)
        · rw [P.out.2]; exact Own.nil _ _
      | true =>
        have P : Hid (pmE m = 0 ∧ pmB m = bodyM m ++ be 4 ((Crc.sum (bodyM m)).setWidth 64)) := by
          have e : pmE m = 0 := by rw [HP.out, hcm]; rfl
          exact ⟨e, by unfold pmB; rw [e]; exact if_pos rfl⟩
        have HC : Hid (canM m = true) := hcm
        have hes : ∀ e ∈ m.es, canE e = true := by
          unfold canM at hcm
          simp only [Bool.and_eq_true, List.all_eq_true] at hcm
          exact hcm.2
        have hbl := bodyM_len m hes hl4 hd6
        clear hcm hes HP
        go_wp2_with fail
        refine (NewWriter_any w2.heap.size w2 (Nat.le_refl _)).mono ?_
        rintro r w3 ⟨g, rfl, hg, W3, b3⟩
        have H3 : Hid (Below w.heap.size w w3 ∧ Blk w3 w.heap.size 25 [.int .i64 m.kd, .int .i64 m.fr, .int .i64 m.too, .int .i64 m.tm, .int .i64 m.at_, .int .i64 m.att, .int .i64 m.cm, .int .i64 m.rd, .bool m.yes, .slice ea m.es.length ec, .slice da m.dt.length dc] ∧ Below w2.heap.size w2 w3 ∧ WrAt w3 w2.heap.size g 88 (.slice none 0 0) [] 0) := ⟨below_then H2.out.1 b3, H2.out.2.laterB b3, b3, W3⟩
        have hs2 := H2.out.1.size
        obtain ⟨c0, c1, c2, c3, c4, c5, c6, c7, c8, c9, c10⟩ := eblk11 H3.out.2.1
        have N4 := writeMsg_any w2.heap.size g (.slice none 0 0) m m.yes rfl ea ec da dc w3 HC.out hl4 hd6 hdc hdn W3 w HA.out.1 HA.out.2 hs2 H3.out.1
        clear W3 b3 hg
        go_wp2_with fail
        clear c0 c1 c2 c3 c4 c5 c6 c7 c8 c9 c10
        refine N4.mono ?_
        rintro r w4 ⟨rfl, v4, W4, b4⟩
        obtain ⟨B, hB⟩ : ∃ B, B = bodyM m := ⟨_, rfl⟩
        rw [← hB] at W4 hbl
        have H4 : Hid (Below w.heap.size w w4 ∧ Below w2.heap.size w2 w4 ∧ WrAt w4 w2.heap.size g 88 v4 B 0 ∧ B = bodyM m) := ⟨H3.out.1.trans (b4.mono hs2), H3.out.2.2.1.trans b4, W4, hB⟩
        have N5 := wEnd_any w2.heap.size g v4 B 0 w4 W4 (by omega)
        have e5 : wrEnd B 0 = B := by unfold wrEnd; rw [if_pos rfl]
        rw [e5] at N5
        clear N4 W4 b4 hB H3 H2 e5
        go_wp2_with fail
        refine N5.mono ?_
        rintro r w5 ⟨z5, rfl, o5, b5⟩
        obtain ⟨a5, k5, rfl, -, hm5, r5, -, -⟩ := o5.open
        have W5 := H4.out.2.2.1.stays (turned_below b5) (fun e => e) (fun _ _ e => e)
        have N6 := sum_any a5 B.length k5 B w5 rfl (by unfold maxLen; omega) r5
        have hsl := (Crc.sum B).isLt
        have N7 := wNum_any w2.heap.size g v4 B 0 4 ((Crc.sum B).toNat : Int) w5 W5 (by omega)
        rw [wr_4s] at N7
        have H5 : Hid (Below w.heap.size w w5 ∧ WrAt w5 w2.heap.size g 88 v4 B 0) := ⟨below_then H4.out.1 b5, W5⟩
        have HBm : Hid (B = bodyM m) := H4.out.2.2.2
        obtain ⟨S, hS⟩ : ∃ S, S = Crc.sum B := ⟨_, rfl⟩
        have HS : Hid (S = Crc.sum B) := hS
        rw [← hS] at N6 N7 hsl
        clear hS N5 o5 b5 r5 W5 H4
        go_wp2_with fail
        refine N6.mono ?_
        rintro r w6 ⟨rfl, rfl⟩
        clear N6
        generalize hsm : (S.toNat : Int) = sm at *
        have Hsm : Hid _ := hsm
        have hsm2 : 0 ≤ sm ∧ sm < 4294967296 := by rw [← hsm]; omega
        clear hsm hsl
        go_wp2_with fail
        refine N7.mono ?_
        rintro r w7 ⟨rfl, v7, W7, -, t7⟩
        have N8 := wEnd_any w2.heap.size g v7 _ 0 w7 W7 (by rw [List.length_append, be_length _ _ (by omega)]; omega)
        have H7 : Hid (Below w.heap.size w w7) := H5.out.1.trans ((H5.out.2.below t7).mono hs2)
        have e8 : wrEnd (B ++ be 4 (S.setWidth 64)) 0 = B ++ be 4 (S.setWidth 64) := by unfold wrEnd; rw [if_pos rfl]
        rw [e8] at N8
        clear N7 W7 t7 H5 e8
        go_wp2_with fail
        refine N8.mono ?_
        rintro r w8 ⟨z8, rfl, o8, b8⟩
        have F : Hid _ := And.intro (o8.lower H7.out.size) (below_then H7.out b8)
        clear o8 b8 H7 N8
        go_wp2
        go_ret2
        refine ⟨z8, ?_, ?_, F.out.2⟩
        · (rw [P.out.1]; try rfl)
        · rw [P.out.2, ← HBm.out, ← HS.out]; exact F.out.1
end Go.Proofs.Ytgjcgnmomdanaaa

/- An entry read, whatever the reader's error. -/
namespace Go.Proofs.Ytgjcgnmomdanaaa
open Go.RowKit Go.Shelf
set_option linter.unusedVariables false
set_option maxRecDepth 20000

/-- a reader's state: what is left, its error -/
abbrev Rs := List (BitVec 8) × Int
def rkE (s : Rs) : List (BitVec 8) × Int × Int := rdNum s.1 s.2 1
def rtE (s : Rs) : List (BitVec 8) × Int × Int := rdNum (rkE s).1 (rkE s).2.1 6
def rcE (s : Rs) : List (BitVec 8) × Int × List (BitVec 8) := rdBytes (rtE s).1 (rtE s).2.1 2
def rEntE (s : Rs) : Ent := ((rkE s).2.2 - 64, (rtE s).2.2, (rcE s).2.2)
def rNext (s : Rs) : Rs := ((rcE s).1, (rcE s).2.1)
theorem rkE_bd (s : Rs) : 0 ≤ (rkE s).2.2 ∧ (rkE s).2.2 < 256 := by
  have := rdNum_bd s.1 s.2 1 (.inl rfl)
  simp only [Nat.reduceMul, Int.reducePow] at this
  exact this
set_option maxHeartbeats 2000000 in
theorem readEntry_turn (F : List Nat) (g : Nat) (s : Rs) (w : World) (hR : Rd w F g 98 s.1 s.2) :
    Calls Try.prog 61 #[.pointer (some ⟨g, 0, none⟩)] w fun r w' => ∃ x c, r = .returned (.agg #[.int .i64 (rEntE s).1, .int .i64 (rEntE s).2.1, .slice x (rEntE s).2.2.length c]) ∧ Own w' w.heap.size (.slice x (rEntE s).2.2.length c) (rEntE s).2.2 ∧ Rd w' F g 98 (rNext s).1 (rNext s).2 ∧ Turned (fun k => k = g) w w' := by
  have b0 := box3_below w (.int .i64 0) (.int .i64 0) (.slice none 0 0) 49
  have M0 : Blk (w.alloc (.cells #[.int .i64 0, .int .i64 0, .slice none 0 0] 49)) w.heap.size 49 [.int .i64 0, .int .i64 0, .slice none 0 0] := Blk.new' w _ _
  have hgl := hR.blt
  have R0 := (hR.more w.heap.size (Nat.le_refl _)).later b0
  have hsz : w.heap.size < (w.alloc (.cells #[.int .i64 0, .int .i64 0, .slice none 0 0] 49)).heap.size := M0.lt
  have hkb := rkE_bd s
  show Calls Try.prog 61 #[.pointer (some ⟨g, 0, none⟩)] w fun r w' => ∃ x c, r = .returned (.agg #[.int .i64 ((rkE s).2.2 - 64), .int .i64 (rtE s).2.2, .slice x (rcE s).2.2.length c]) ∧ Own w' w.heap.size (.slice x (rcE s).2.2.length c) (rcE s).2.2 ∧ Rd w' F g 98 (rcE s).1 (rcE s).2.1 ∧ Turned (fun k => k = g) w w'
  obtain ⟨K, hK⟩ : ∃ K, K = (rkE s).2.2 := ⟨_, rfl⟩
  obtain ⟨T, hT⟩ : ∃ T, T = (rtE s).2.2 := ⟨_, rfl⟩
  rw [← hK, ← hT]
  rw [← hK] at hkb
  have HKT : Hid (K = (rkE s).2.2 ∧ T = (rtE s).2.2) := ⟨hK, hT⟩
  clear hR hK hT
  go_enter Try.func61, Try.ntmps61
  go_wp2_with fail
  generalize w.alloc (.cells #[.int .i64 0, .int .i64 0, .slice none 0 0] 49) = wb at *
  have N1 : Calls Try.prog 59 #[.pointer (some ⟨g, 0, none⟩), .int .i64 1] wb fun e w' => e = .returned (.int .i64 (rkE s).2.2) ∧ Rd w' (w.heap.size :: F) g 98 (rkE s).1 (rkE s).2.1 ∧ wb.grownBy w' (some g) := Num_any _ g s.1 s.2 1 wb R0
  rw [← HKT.out.1] at N1
  have H0 : Hid (Turned (fun k => k = g) w wb ∧ Blk wb w.heap.size 49 [.int .i64 0, .int .i64 0, .slice none 0 0]) := ⟨(turned_below b0).mono (fun _ h => absurd h id), M0⟩
  clear b0 M0 R0
  refine N1.mono ?_
  rintro r w1 ⟨rfl, R1, g1⟩
  have N2 : Calls Try.prog 59 #[.pointer (some ⟨g, 0, none⟩), .int .i64 6] w1 fun e w' => e = .returned (.int .i64 (rtE s).2.2) ∧ Rd w' (w.heap.size :: F) g 98 (rtE s).1 (rtE s).2.1 ∧ w1.grownBy w' (some g) := Num_any _ g _ _ 6 w1 R1
  rw [← HKT.out.2] at N2
  have hs1 := g1.size
  have H1 : Hid (Turned (fun k => k = g) w w1 ∧ Blk w1 w.heap.size 49 [.int .i64 0, .int .i64 0, .slice none 0 0]) := ⟨H0.out.1.trans (turned_grown g1 (fun k e => .inl (by injection e with e; exact e.symm))), H0.out.2.grown g1 (fun e => by injection e with e; omega)⟩
  clear H0 R1 N1 g1
  go_wp2_with fail
  refine N2.mono ?_
  rintro r w2 ⟨rfl, R2, g2⟩
  have N3 : Calls Try.prog 62 #[.pointer (some ⟨g, 0, none⟩), .int .i64 2] w2 fun e w' => ∃ v, e = .returned v ∧ Own w' w2.heap.size v (rcE s).2.2 ∧ Rd w' (v.ownBlock.toList ++ (w.heap.size :: F)) g 98 (rcE s).1 (rcE s).2.1 ∧ w2.grownBy w' (some g) := Bytes_any _ g _ _ 2 w2 R2
  have hs2 := g2.size
  have H2 : Hid (Turned (fun k => k = g) w w2 ∧ Blk w2 w.heap.size 49 [.int .i64 0, .int .i64 0, .slice none 0 0]) := ⟨H1.out.1.trans (turned_grown g2 (fun k e => .inl (by injection e with e; exact e.symm))), H1.out.2.grown g2 (fun e => by injection e with e; omega)⟩
  clear H1 R2 N2 g2
  go_wp2_with fail
  refine N3.mono ?_
  rintro r w3 ⟨v, rfl, o3, R3, g3⟩
  obtain ⟨x, c, rfl, -, -, -, -, -⟩ := o3.open
  have hs3 := g3.size
  have M3 := H2.out.2.grown g3 (fun e => by injection e with e; omega)
  have T3 : Turned (fun k => k = g) w w3 := H2.out.1.trans (turned_grown g3 (fun k e => .inl (by injection e with e; exact e.symm)))
  have hG := grown3 w3 w.heap.size (.int .i64 (K - 64)) (.int .i64 T) (.slice x (rcE s).2.2.length c)
  have T4 := T3.trans (turned_grown hG (fun k e => .inr (by injection e with e; omega)))
  have S4 := eset3 M3 (.int .i64 (K - 64)) (.int .i64 T) (.slice x (rcE s).2.2.length c) 0 w3 (Below.refl _ _) (Nat.zero_le _) (Nat.zero_le _)
  have o4 := o3.keep hG (fun k hk e => by
    have := (World.ownsRow.lt o3 k hk).1
    injection e with e; omega)
  have R4 := ((R3.less (F' := w.heap.size :: F) (fun k hk => List.mem_append_right _ hk)).keep hG (fun k hk => by injection hk with hk; subst hk; exact ⟨by omega, .inl (by simp)⟩)).less (F' := F) (fun k hk => List.mem_cons_of_mem _ hk)
  obtain ⟨⟨u0, u1, u2⟩, f0, f1, f2⟩ := eblk3 M3
  have F1 : Hid _ := And.intro (o4.lower (show w.heap.size ≤ w2.heap.size by omega)) (And.intro R4 (And.intro T4 S4.1))
  clear o3 o4 R3 R4 M3 T3 T4 S4 H2 N3 g3 hG
  go_wp2
  generalize (((w3.setCell ⟨w.heap.size, 0, none⟩ (.int .i64 (K - 64))).setCell ⟨w.heap.size, 1, none⟩ (.int .i64 T)).setCell ⟨w.heap.size, 2, none⟩ (.slice x (rcE s).2.2.length c)) = wf at *
  obtain ⟨⟨y0, y1, y2⟩, -⟩ := eblk3 F1.out.2.2.2
  refine bodyPost_ret (v := .agg #[.int .i64 (K - 64), .int .i64 T, .slice x (rcE s).2.2.length c]) (by simp [results, Try.results61, go_sem, y0, y1, y2]) rfl ?_
  exact ⟨x, c, rfl, F1.out.1, F1.out.2.1, F1.out.2.2.1⟩
end Go.Proofs.Ytgjcgnmomdanaaa

/- Whether a message can be, by the document. -/
namespace Go.Proofs.Ytgjcgnmomdanaaa
open Go.RowKit Go.Shelf
set_option linter.unusedVariables false
set_option maxRecDepth 20000

def canH (m : Mg) : Bool := (numB m.tm && numB m.at_ && numB m.att && numB m.cm && numB m.rd) && (byB m.kd && byB m.fr && byB m.too)
theorem canM_h (m : Mg) : canM m = (canH m && m.es.all canE) := by
  unfold canM canH
  rw [Bool.and_comm (byB m.kd && byB m.fr && byB m.too)]
def canA (m : Mg) (i : Nat) : Bool := canH m && (m.es.take i).all canE
theorem canA_succ (m : Mg) (i : Nat) (h : i < m.es.length) : canA m (i + 1) = (canA m i && canE m.es[i]) := by
  unfold canA; rw [List.take_succ_eq_append_getElem h, List.all_append]; simp [Bool.and_assoc]
set_option maxHeartbeats 8000000 in
theorem rightMsg_any (m : Mg) (ea : Option Addr) (ec : Nat) (da : Option Addr) (dc : Nat) (w : World) (hE : EArgs w ea m.es) (hl : m.es.length ≤ 140737488355328) :
    Calls Try.prog 21 #[.agg #[.int .i64 m.kd, .int .i64 m.fr, .int .i64 m.too, .int .i64 m.tm, .int .i64 m.at_, .int .i64 m.att, .int .i64 m.cm, .int .i64 m.rd, .bool m.yes, .slice ea m.es.length ec, .slice da m.dt.length dc]] w fun r w' => r = .returned (.bool (canM m)) ∧ Below w.heap.size w w' := by
  have b0 := box11_below w #[.int .i64 m.kd, .int .i64 m.fr, .int .i64 m.too, .int .i64 m.tm, .int .i64 m.at_, .int .i64 m.att, .int .i64 m.cm, .int .i64 m.rd, .bool m.yes, .slice ea m.es.length ec, .slice da m.dt.length dc] 25
  have M0 : Blk (w.alloc (.cells #[.int .i64 m.kd, .int .i64 m.fr, .int .i64 m.too, .int .i64 m.tm, .int .i64 m.at_, .int .i64 m.att, .int .i64 m.cm, .int .i64 m.rd, .bool m.yes, .slice ea m.es.length ec, .slice da m.dt.length dc] 25)) w.heap.size 25 [.int .i64 m.kd, .int .i64 m.fr, .int .i64 m.too, .int .i64 m.tm, .int .i64 m.at_, .int .i64 m.att, .int .i64 m.cm, .int .i64 m.rd, .bool m.yes, .slice ea m.es.length ec, .slice da m.dt.length dc] := Blk.new' w _ _
  have H0 : Hid (Below w.heap.size w (w.alloc (.cells #[.int .i64 m.kd, .int .i64 m.fr, .int .i64 m.too, .int .i64 m.tm, .int .i64 m.at_, .int .i64 m.att, .int .i64 m.cm, .int .i64 m.rd, .bool m.yes, .slice ea m.es.length ec, .slice da m.dt.length dc] 25)) ∧ Blk (w.alloc (.cells #[.int .i64 m.kd, .int .i64 m.fr, .int .i64 m.too, .int .i64 m.tm, .int .i64 m.at_, .int .i64 m.att, .int .i64 m.cm, .int .i64 m.rd, .bool m.yes, .slice ea m.es.length ec, .slice da m.dt.length dc] 25)) w.heap.size 25 [.int .i64 m.kd, .int .i64 m.fr, .int .i64 m.too, .int .i64 m.tm, .int .i64 m.at_, .int .i64 m.att, .int .i64 m.cm, .int .i64 m.rd, .bool m.yes, .slice ea m.es.length ec, .slice da m.dt.length dc] ∧ EArgs (w.alloc (.cells #[.int .i64 m.kd, .int .i64 m.fr, .int .i64 m.too, .int .i64 m.tm, .int .i64 m.at_, .int .i64 m.att, .int .i64 m.cm, .int .i64 m.rd, .bool m.yes, .slice ea m.es.length ec, .slice da m.dt.length dc] 25)) ea m.es) := ⟨b0, M0, hE.later b0⟩
  clear b0 M0 hE
  go_enter Try.func21, Try.ntmps21
  go_upto_region 1 with fail
  generalize w.alloc (.cells #[.int .i64 m.kd, .int .i64 m.fr, .int .i64 m.too, .int .i64 m.tm, .int .i64 m.at_, .int .i64 m.att, .int .i64 m.cm, .int .i64 m.rd, .bool m.yes, .slice ea m.es.length ec, .slice da m.dt.length dc] 25) = wb at *
  obtain ⟨C, hC⟩ : ∃ C, C = canH m := ⟨_, rfl⟩
  have HC : Hid (C = ((numB m.tm && numB m.at_ && numB m.att && numB m.cm && numB m.rd) && (byB m.kd && byB m.fr && byB m.too))) := hC
  have HA0 : Hid (C = canA m 0) := (by rw [hC]; unfold canA; simp : C = canA m 0)
  clear hC
  obtain ⟨D, hD⟩ : ∃ D, D = (numB m.tm && numB m.at_ && numB m.att && numB m.cm && numB m.rd) := ⟨_, rfl⟩
  have HD : Hid (D = (numB m.tm && numB m.at_ && numB m.att && numB m.cm && numB m.rd)) := hD
  rw [← hD] at HC
  clear hD
  go_cut [3] from 5 to 28 (fun okv wx => okv = .bool D ∧ wx = wb)
  case first =>
    obtain ⟨c0, c1, c2, c3, c4, c5, c6, c7, c8, c9, c10⟩ := eblk11 H0.out.2.1
    cases n0 : numB m.tm with
    | false =>
      have HX : Hid (D = false) := (by rw [HD.out, n0]; simp : D = false)
      have N0 : Hid (∀ W, Calls Try.prog 53 #[.int .i64 m.tm] W fun e w' => e = .returned (.bool false) ∧ W = w') := fun W => by have := can9_any m.tm W; rw [n0] at this; exact this
      clear n0
      go_wp2_with fail
      refine (N0.out _).mono ?_
      rintro r w0 ⟨rfl, rfl⟩
      go_wp2
      go_meet
      exact ⟨by rw [HX.out], rfl⟩
    | true =>
      have N0 : Hid (∀ W, Calls Try.prog 53 #[.int .i64 m.tm] W fun e w' => e = .returned (.bool true) ∧ W = w') := fun W => by have := can9_any m.tm W; rw [n0] at this; exact this
      have HT0 : Hid (numB m.tm = true) := n0
      clear n0
      cases n1 : numB m.at_ with
      | false =>
        have HX : Hid (D = false) := (by rw [HD.out, n1]; simp : D = false)
        have N1 : Hid (∀ W, Calls Try.prog 53 #[.int .i64 m.at_] W fun e w' => e = .returned (.bool false) ∧ W = w') := fun W => by have := can9_any m.at_ W; rw [n1] at this; exact this
        clear n1
        go_wp2_with fail
        refine (N0.out _).mono ?_
        rintro r w0 ⟨rfl, rfl⟩
        go_wp2_with fail
        refine (N1.out _).mono ?_
        rintro r w1 ⟨rfl, rfl⟩
        go_wp2
        go_meet
        exact ⟨by rw [HX.out], rfl⟩
      | true =>
        have N1 : Hid (∀ W, Calls Try.prog 53 #[.int .i64 m.at_] W fun e w' => e = .returned (.bool true) ∧ W = w') := fun W => by have := can9_any m.at_ W; rw [n1] at this; exact this
        have HT1 : Hid (numB m.at_ = true) := n1
        clear n1
        cases n2 : numB m.att with
        | false =>
          have HX : Hid (D = false) := (by rw [HD.out, n2]; simp : D = false)
          have N2 : Hid (∀ W, Calls Try.prog 53 #[.int .i64 m.att] W fun e w' => e = .returned (.bool false) ∧ W = w') := fun W => by have := can9_any m.att W; rw [n2] at this; exact this
          clear n2
          go_wp2_with fail
          refine (N0.out _).mono ?_
          rintro r w0 ⟨rfl, rfl⟩
          go_wp2_with fail
          refine (N1.out _).mono ?_
          rintro r w1 ⟨rfl, rfl⟩
          go_wp2_with fail
          refine (N2.out _).mono ?_
          rintro r w2 ⟨rfl, rfl⟩
          go_wp2
          go_meet
          exact ⟨by rw [HX.out], rfl⟩
        | true =>
          have N2 : Hid (∀ W, Calls Try.prog 53 #[.int .i64 m.att] W fun e w' => e = .returned (.bool true) ∧ W = w') := fun W => by have := can9_any m.att W; rw [n2] at this; exact this
          have HT2 : Hid (numB m.att = true) := n2
          clear n2
          cases n3 : numB m.cm with
          | false =>
            have HX : Hid (D = false) := (by rw [HD.out, n3]; simp : D = false)
            have N3 : Hid (∀ W, Calls Try.prog 53 #[.int .i64 m.cm] W fun e w' => e = .returned (.bool false) ∧ W = w') := fun W => by have := can9_any m.cm W; rw [n3] at this; exact this
            clear n3
            go_wp2_with fail
            refine (N0.out _).mono ?_
            rintro r w0 ⟨rfl, rfl⟩
            go_wp2_with fail
            refine (N1.out _).mono ?_
            rintro r w1 ⟨rfl, rfl⟩
            go_wp2_with fail
            refine (N2.out _).mono ?_
            rintro r w2 ⟨rfl, rfl⟩
            go_wp2_with fail
            refine (N3.out _).mono ?_
            rintro r w3 ⟨rfl, rfl⟩
            go_wp2
            go_meet
            exact ⟨by rw [HX.out], rfl⟩
          | true =>
            have N3 : Hid (∀ W, Calls Try.prog 53 #[.int .i64 m.cm] W fun e w' => e = .returned (.bool true) ∧ W = w') := fun W => by have := can9_any m.cm W; rw [n3] at this; exact this
            have HT3 : Hid (numB m.cm = true) := n3
            clear n3
            cases n4 : numB m.rd with
            | false =>
              have HX : Hid (D = false) := (by rw [HD.out, n4]; simp : D = false)
              have N4 : Hid (∀ W, Calls Try.prog 53 #[.int .i64 m.rd] W fun e w' => e = .returned (.bool false) ∧ W = w') := fun W => by have := can9_any m.rd W; rw [n4] at this; exact this
              clear n4
              go_wp2_with fail
              refine (N0.out _).mono ?_
              rintro r w0 ⟨rfl, rfl⟩
              go_wp2_with fail
              refine (N1.out _).mono ?_
              rintro r w1 ⟨rfl, rfl⟩
              go_wp2_with fail
              refine (N2.out _).mono ?_
              rintro r w2 ⟨rfl, rfl⟩
              go_wp2_with fail
              refine (N3.out _).mono ?_
              rintro r w3 ⟨rfl, rfl⟩
              go_wp2_with fail
              refine (N4.out _).mono ?_
              rintro r w4 ⟨rfl, rfl⟩
              go_wp2
              go_meet
              exact ⟨by rw [HX.out], rfl⟩
            | true =>
              have N4 : Hid (∀ W, Calls Try.prog 53 #[.int .i64 m.rd] W fun e w' => e = .returned (.bool true) ∧ W = w') := fun W => by have := can9_any m.rd W; rw [n4] at this; exact this
              have HT4 : Hid (numB m.rd = true) := n4
              clear n4
              have HX : Hid (D = true) := (by rw [HD.out, HT0.out, HT1.out, HT2.out, HT3.out, HT4.out]; rfl : D = true)
              go_wp2_with fail
              refine (N0.out _).mono ?_
              rintro r w0 ⟨rfl, rfl⟩
              go_wp2_with fail
              refine (N1.out _).mono ?_
              rintro r w1 ⟨rfl, rfl⟩
              go_wp2_with fail
              refine (N2.out _).mono ?_
              rintro r w2 ⟨rfl, rfl⟩
              go_wp2_with fail
              refine (N3.out _).mono ?_
              rintro r w3 ⟨rfl, rfl⟩
              go_wp2_with fail
              refine (N4.out _).mono ?_
              rintro r w4 ⟨rfl, rfl⟩
              go_wp2
              go_meet
              exact ⟨by rw [HX.out], rfl⟩
  case rest =>
  obtain ⟨rfl, hwx⟩ := hcut
  subst hwx
  obtain ⟨wb, hwb⟩ : ∃ x, x = wc := ⟨_, rfl⟩
  subst hwb
  go_upto_region 2 with fail
  go_cut [3] from 28 to 59 (fun okv wx => okv = .bool C ∧ wx = wb)
  case first =>
    obtain ⟨c0, c1, c2, c3, c4, c5, c6, c7, c8, c9, c10⟩ := eblk11 H0.out.2.1
    cases D with
    | false =>
      have HX : Hid (C = false) := (by rw [HC.out]; rfl : C = false)
      go_wp2
      go_meet
      exact ⟨by rw [HX.out], rfl⟩
    | true =>
      by_cases x0 : m.kd < 0
      · have HX : Hid (C = false) := (by rw [HC.out, show byB m.kd = false from decide_eq_false (by omega)]; simp : C = false)
        have dx : decide (m.kd ≥ 0) = false := decide_eq_false (by omega)
        go_wp2
        go_meet
        exact ⟨by rw [HX.out], rfl⟩
      by_cases z0 : 255 < m.kd
      · have HX : Hid (C = false) := (by rw [HC.out, show byB m.kd = false from decide_eq_false (by omega)]; simp : C = false)
        have dx : decide (m.kd ≤ 255) = false := decide_eq_false (by omega)
        go_wp2
        go_meet
        exact ⟨by rw [HX.out], rfl⟩
      by_cases x1 : m.fr < 0
      · have HX : Hid (C = false) := (by rw [HC.out, show byB m.fr = false from decide_eq_false (by omega)]; simp : C = false)
        have dx : decide (m.fr ≥ 0) = false := decide_eq_false (by omega)
        go_wp2
        go_meet
        exact ⟨by rw [HX.out], rfl⟩
      by_cases z1 : 255 < m.fr
      · have HX : Hid (C = false) := (by rw [HC.out, show byB m.fr = false from decide_eq_false (by omega)]; simp : C = false)
        have dx : decide (m.fr ≤ 255) = false := decide_eq_false (by omega)
        go_wp2
        go_meet
        exact ⟨by rw [HX.out], rfl⟩
      by_cases x2 : m.too < 0
      · have HX : Hid (C = false) := (by rw [HC.out, show byB m.too = false from decide_eq_false (by omega)]; simp : C = false)
        have dx : decide (m.too ≥ 0) = false := decide_eq_false (by omega)
        go_wp2
        go_meet
        exact ⟨by rw [HX.out], rfl⟩
      by_cases z2 : 255 < m.too
      · have HX : Hid (C = false) := (by rw [HC.out, show byB m.too = false from decide_eq_false (by omega)]; simp : C = false)
        have dx : decide (m.too ≤ 255) = false := decide_eq_false (by omega)
        go_wp2
        go_meet
        exact ⟨by rw [HX.out], rfl⟩
      have HX : Hid (C = true) := (by rw [HC.out, show byB m.kd = true from decide_eq_true (by omega), show byB m.fr = true from decide_eq_true (by omega), show byB m.too = true from decide_eq_true (by omega)]; rfl : C = true)
      go_wp2
      go_meet
      exact ⟨by rw [HX.out], rfl⟩
  case rest =>
  obtain ⟨rfl, hwx⟩ := hcut
  subst hwx
  rw [HA0.out]
  clear HC
  go_wp2_with fail
  have HB0 : Hid (Below wc.heap.size wc wc) := Below.refl _ _
  go_loopw [3, 4] (fun okv iv wr => ∃ (i : Nat) (u : Value), u = okv ∧ iv = .int .i64 i ∧ u = .bool (canA m i) ∧ i ≤ m.es.length ∧ Below wc.heap.size wc wr) (fun _ iv _ => m.es.length - (intOf iv).toNat)
  case atStart => exact ⟨0, _, rfl, rfl, rfl, by omega, HB0.out⟩
  case round =>
    obtain ⟨i, u, rfl, rfl, rfl, hi, hb⟩ := hrel
    have HB : Hid (Below wc.heap.size wc wr) := hb
    clear hb
    obtain ⟨c0, c1, c2, c3, c4, c5, c6, c7, c8, c9, c10⟩ := eblk11 (H0.out.2.1.laterB HB.out)
    by_cases hlt : i < m.es.length
    · have hlt' : (i : Int) < (m.es.length : Int) := by omega
      have hcs := canA_succ m i hlt
      cases hA : canA m i with
      | false =>
        have HX : Hid (canA m (i + 1) = false) := (by rw [hcs, hA]; rfl : canA m (i + 1) = false)
        clear hA hcs
        go_wp2
        go_roundw
        case rel => exact ⟨i + 1, _, rfl, by go_num, by rw [HX.out], by omega, HB.out⟩
        case measure => simp [intOf]; omega
      | true =>
        obtain ⟨p, off, rfl, hAt⟩ := EArgs.at (H0.out.2.2.later HB.out) i hlt
        obtain ⟨h1, h2, ⟨x, cx, h3, h4, h5, h6⟩, h7, h7', h8⟩ := hAt
        have HX : Hid (canA m (i + 1) = canE (m.es[i].1, m.es[i].2.1, m.es[i].2.2)) := (by rw [hcs, hA]; rfl : canA m (i + 1) = canE m.es[i])
        clear hA hcs
        generalize (m.es[i]).1 = ek at *
        generalize (m.es[i]).2.1 = et at *
        generalize (m.es[i]).2.2 = el at *
        have N5 := right9_any ek et el x cx wr h4 (by omega)
        clear h4
        go_wp2_with fail
        clear c0 c1 c2 c3 c4 c5 c6 c7 c8 c9 c10 h1 h2 h3
        refine N5.mono ?_
        rintro r w6 ⟨rfl, b6⟩
        rw [← HX.out]
        have F : Hid (Below wc.heap.size wc w6) := below_then HB.out b6
        clear N5 b6 HB
        go_wp2
        go_roundw
        case rel => exact ⟨i + 1, _, rfl, by go_num, rfl, by omega, F.out⟩
        case measure => simp [intOf]; omega
    · have he : i = m.es.length := by omega
      have HX : Hid (canA m i = canM m) := (by rw [canM_h, he]; unfold canA; rw [List.take_length] : canA m i = canM m)
      have F : Hid _ := below_then H0.out.1 HB.out
      have hnl : ¬ (i : Int) < (m.es.length : Int) := by omega
      clear he HB
      go_wp2
      go_ret
      exact ⟨ret_bool HX.out, F.out⟩
end Go.Proofs.Ytgjcgnmomdanaaa
