/- An entry as bytes and back: EntriesPack's walk. -/
import Derived.Test.YtgjcgnmomdanaaaXEp3
import Derived.Test.YtgjcgnmomdanaaaXEn17
import Derived.Test.YtgjcgnmomdanaaaXAid
namespace Go.Proofs.Ytgjcgnmomdanaaa
open Go.RowKit Go.Shelf
set_option linter.unusedVariables false
set_option maxRecDepth 4000

theorem Row.front9 {W : World} {a : Option Addr} {l y : List (BitVec 8)} (h : Row W a (l ++ y)) : Row W a l := by
  rcases h with h | ⟨b, off, rfl, hc⟩
  · exact .inl (List.append_eq_nil_iff.1 h).1
  · refine .inr ⟨b, off, rfl, fun i hi => ?_⟩
    rw [hc i (by rw [List.length_append]; omega)]
    simp [bt, List.getElem?_append_left hi]
theorem earg1 {W : World} {p : Nat} {k t : Int} {l : List (BitVec 8)} {x : Option Addr} {c : Nat} (m : Blk W p 49 [.int .i64 k, .int .i64 t, .slice x l.length c]) (hr : Row W x l) (hc : l.length ≤ c) (hn : x = none → c = 0) (hk : I64 k) (ht : I64 t) (hl : l.length ≤ 140737488351232) : EArgs W (some ⟨p, 0, none⟩) [(k, t, l)] := by
  obtain ⟨⟨c0, c1, c2⟩, -⟩ := eblk3 m
  refine .inr ⟨p, 0, rfl, fun i hi => ?_⟩
  have e : i = 0 := by simp at hi; exact hi
  subst e
  exact ⟨by simpa using c0, by simpa using c1, ⟨x, c, by simpa using c2, hr, hc, hn⟩, hk, ht, hl⟩
theorem unp_bd (b : List (BitVec 8)) : I64 (unp b).1.1 ∧ I64 (unp b).1.2.1 ∧ (unp b).1.2.2.length ≤ b.length := by
  have h1 := rk_bd b
  have h2 := rt_bd b
  have h3 := rc_len b
  unfold unp
  split
  · split
    · exact ⟨by show I64 ((rk b).2.2 - 64); unfold I64; omega, by show I64 (rt b).2.2; unfold I64; omega, h3⟩
    · exact ⟨by unfold I64; show -9223372036854775808 ≤ (0 : Int) ∧ (0 : Int) ≤ _; omega, by unfold I64; show -9223372036854775808 ≤ (0 : Int) ∧ (0 : Int) ≤ _; omega, Nat.zero_le _⟩
  · exact ⟨by unfold I64; show -9223372036854775808 ≤ (0 : Int) ∧ (0 : Int) ≤ _; omega, by unfold I64; show -9223372036854775808 ≤ (0 : Int) ∧ (0 : Int) ≤ _; omega, Nat.zero_le _⟩
/-- what stands from when both have packed -/
structure PW (w W : World) (k t : Int) (l : List (BitVec 8)) (x : Option Addr) (c : Nat) (a1 : Option Addr) (l1 : List (BitVec 8)) (go : Nat) (z1 z2 : Option Addr) (P : List (BitVec 8)) : Prop where
  be : Below w.heap.size w W
  me : Blk W w.heap.size 49 [.int .i64 k, .int .i64 t, .slice x l.length c]
  rx : Row W x l
  rb : Row W a1 l1
  ro : Row W (some ⟨go, 0, none⟩) (l1 ++ [167#8])
  r1 : Row W z1 P
  r2 : Row W z2 P
theorem PW.later {w W W' : World} {k t : Int} {l : List (BitVec 8)} {x : Option Addr} {c : Nat} {a1 : Option Addr} {l1 : List (BitVec 8)} {go : Nat} {z1 z2 : Option Addr} {P : List (BitVec 8)} (h : PW w W k t l x c a1 l1 go z1 z2 P) (hb : Below W.heap.size W W') : PW w W' k t l x c a1 l1 go z1 z2 P :=
  ⟨below_then h.be hb, h.me.laterB hb, h.rx.later hb, h.rb.later hb, h.ro.later hb, h.r1.later hb, h.r2.later hb⟩

end Go.Proofs.Ytgjcgnmomdanaaa

