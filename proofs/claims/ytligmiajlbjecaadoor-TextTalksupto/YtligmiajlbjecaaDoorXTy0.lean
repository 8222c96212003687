/- text: Talk, without Go. -/
import Derived.Test.YtligmiajlbjecaaDoorXTx20
import Derived.Test.YtligmiajlbjecaaDoorXTx8
import Derived.Lib.IndexLaws
namespace Go.Proofs.YtligmiajlbjecaaDoor
open Go.RowKit
set_option linter.unusedVariables false
set_option linter.unusedSimpArgs false
set_option maxRecDepth 8000

abbrev ky0 : ByteArray := ⟨#[73, 110, 105, 116, 105, 97, 116, 111, 114, 78, 97, 109, 101]⟩
abbrev ky1 : ByteArray := ⟨#[84, 97, 114, 103, 101, 116, 78, 97, 109, 101]⟩
abbrev ky2 : ByteArray := ⟨#[83, 101, 115, 115, 105, 111, 110, 84, 121, 112, 101]⟩
abbrev ky3 : ByteArray := ⟨#[73, 110, 105, 116, 105, 97, 116, 111, 114, 65, 108, 105, 97, 115]⟩
abbrev ky4 : ByteArray := ⟨#[65, 117, 116, 104, 77, 101, 116, 104, 111, 100]⟩
abbrev ky5 : ByteArray := ⟨#[72, 101, 97, 100, 101, 114, 68, 105, 103, 101, 115, 116]⟩
abbrev ky6 : ByteArray := ⟨#[68, 97, 116, 97, 68, 105, 103, 101, 115, 116]⟩
abbrev ky7 : ByteArray := ⟨#[77, 97, 120, 82, 101, 99, 118, 68, 97, 116, 97, 83, 101, 103, 109, 101, 110, 116, 76, 101, 110, 103, 116, 104]⟩
abbrev ky8 : ByteArray := ⟨#[77, 97, 120, 66, 117, 114, 115, 116, 76, 101, 110, 103, 116, 104]⟩
abbrev ky9 : ByteArray := ⟨#[70, 105, 114, 115, 116, 66, 117, 114, 115, 116, 76, 101, 110, 103, 116, 104]⟩
abbrev ky10 : ByteArray := ⟨#[73, 110, 105, 116, 105, 97, 108, 82, 50, 84]⟩
abbrev ky11 : ByteArray := ⟨#[73, 109, 109, 101, 100, 105, 97, 116, 101, 68, 97, 116, 97]⟩
abbrev ky12 : ByteArray := ⟨#[77, 97, 120, 67, 111, 110, 110, 101, 99, 116, 105, 111, 110, 115]⟩
abbrev ky13 : ByteArray := ⟨#[77, 97, 120, 79, 117, 116, 115, 116, 97, 110, 100, 105, 110, 103, 82, 50, 84]⟩
abbrev ky14 : ByteArray := ⟨#[69, 114, 114, 111, 114, 82, 101, 99, 111, 118, 101, 114, 121, 76, 101, 118, 101, 108]⟩
abbrev ky15 : ByteArray := ⟨#[68, 101, 102, 97, 117, 108, 116, 84, 105, 109, 101, 50, 87, 97, 105, 116]⟩
abbrev ky16 : ByteArray := ⟨#[68, 101, 102, 97, 117, 108, 116, 84, 105, 109, 101, 50, 82, 101, 116, 97, 105, 110]⟩
abbrev ky17 : ByteArray := ⟨#[68, 97, 116, 97, 80, 68, 85, 73, 110, 79, 114, 100, 101, 114]⟩
abbrev ky18 : ByteArray := ⟨#[68, 97, 116, 97, 83, 101, 113, 117, 101, 110, 99, 101, 73, 110, 79, 114, 100, 101, 114]⟩
abbrev ky19 : ByteArray := ⟨#[73, 70, 77, 97, 114, 107, 101, 114]⟩
abbrev ky20 : ByteArray := ⟨#[79, 70, 77, 97, 114, 107, 101, 114]⟩
def keyIx (k : ByteArray) : Nat := if k = ky0 then 0 else if k = ky1 then 1 else if k = ky2 then 2 else if k = ky3 then 3 else if k = ky4 then 4 else if k = ky5 then 5 else if k = ky6 then 6 else if k = ky7 then 7 else if k = ky8 then 8 else if k = ky9 then 9 else if k = ky10 then 10 else if k = ky11 then 11 else if k = ky12 then 12 else if k = ky13 then 13 else if k = ky14 then 14 else if k = ky15 then 15 else if k = ky16 then 16 else if k = ky17 then 17 else if k = ky18 then 18 else if k = ky19 then 19 else if k = ky20 then 20 else 21
theorem keyIx_0 : keyIx ky0 = 0 := by decide
theorem keyIx_1 : keyIx ky1 = 1 := by decide
theorem keyIx_2 : keyIx ky2 = 2 := by decide
theorem keyIx_3 : keyIx ky3 = 3 := by decide
theorem keyIx_4 : keyIx ky4 = 4 := by decide
theorem keyIx_5 : keyIx ky5 = 5 := by decide
theorem keyIx_6 : keyIx ky6 = 6 := by decide
theorem keyIx_7 : keyIx ky7 = 7 := by decide
theorem keyIx_8 : keyIx ky8 = 8 := by decide
theorem keyIx_9 : keyIx ky9 = 9 := by decide
theorem keyIx_10 : keyIx ky10 = 10 := by decide
theorem keyIx_11 : keyIx ky11 = 11 := by decide
theorem keyIx_12 : keyIx ky12 = 12 := by decide
theorem keyIx_13 : keyIx ky13 = 13 := by decide
theorem keyIx_14 : keyIx ky14 = 14 := by decide
theorem keyIx_15 : keyIx ky15 = 15 := by decide
theorem keyIx_16 : keyIx ky16 = 16 := by decide
theorem keyIx_17 : keyIx ky17 = 17 := by decide
theorem keyIx_18 : keyIx ky18 = 18 := by decide
theorem keyIx_19 : keyIx ky19 = 19 := by decide
theorem keyIx_20 : keyIx ky20 = 20 := by decide
theorem key_cases (k : ByteArray) : k = ky0 ∨ k = ky1 ∨ k = ky2 ∨ k = ky3 ∨ k = ky4 ∨ k = ky5 ∨ k = ky6 ∨ k = ky7 ∨ k = ky8 ∨ k = ky9 ∨ k = ky10 ∨ k = ky11 ∨ k = ky12 ∨ k = ky13 ∨ k = ky14 ∨ k = ky15 ∨ k = ky16 ∨ k = ky17 ∨ k = ky18 ∨ k = ky19 ∨ k = ky20 ∨ (keyIx k = 21 ∧ (k.toList == (ky0).toList) = false ∧ (k.toList == (ky1).toList) = false ∧ (k.toList == (ky2).toList) = false ∧ (k.toList == (ky3).toList) = false ∧ (k.toList == (ky4).toList) = false ∧ (k.toList == (ky5).toList) = false ∧ (k.toList == (ky6).toList) = false ∧ (k.toList == (ky7).toList) = false ∧ (k.toList == (ky8).toList) = false ∧ (k.toList == (ky9).toList) = false ∧ (k.toList == (ky10).toList) = false ∧ (k.toList == (ky11).toList) = false ∧ (k.toList == (ky12).toList) = false ∧ (k.toList == (ky13).toList) = false ∧ (k.toList == (ky14).toList) = false ∧ (k.toList == (ky15).toList) = false ∧ (k.toList == (ky16).toList) = false ∧ (k.toList == (ky17).toList) = false ∧ (k.toList == (ky18).toList) = false ∧ (k.toList == (ky19).toList) = false ∧ (k.toList == (ky20).toList) = false) := by
  have hb : ∀ x : ByteArray, ¬ k = x → (k.toList == x.toList) = false := fun x h => by rw [beq_toList, decide_eq_false h]
  by_cases h0 : k = ky0
  · exact .inl h0
  by_cases h1 : k = ky1
  · exact .inr (.inl h1)
  by_cases h2 : k = ky2
  · exact .inr (.inr (.inl h2))
  by_cases h3 : k = ky3
  · exact .inr (.inr (.inr (.inl h3)))
  by_cases h4 : k = ky4
  · exact .inr (.inr (.inr (.inr (.inl h4))))
  by_cases h5 : k = ky5
  · exact .inr (.inr (.inr (.inr (.inr (.inl h5)))))
  by_cases h6 : k = ky6
  · exact .inr (.inr (.inr (.inr (.inr (.inr (.inl h6))))))
  by_cases h7 : k = ky7
  · exact .inr (.inr (.inr (.inr (.inr (.inr (.inr (.inl h7)))))))
  by_cases h8 : k = ky8
  · exact .inr (.inr (.inr (.inr (.inr (.inr (.inr (.inr (.inl h8))))))))
  by_cases h9 : k = ky9
  · exact .inr (.inr (.inr (.inr (.inr (.inr (.inr (.inr (.inr (.inl h9)))))))))
  by_cases h10 : k = ky10
  · exact .inr (.inr (.inr (.inr (.inr (.inr (.inr (.inr (.inr (.inr (.inl h10))))))))))
  by_cases h11 : k = ky11
  · exact .inr (.inr (.inr (.inr (.inr (.inr (.inr (.inr (.inr (.inr (.inr (.inl h11)))))))))))
  by_cases h12 : k = ky12
  · exact .inr (.inr (.inr (.inr (.inr (.inr (.inr (.inr (.inr (.inr (.inr (.inr (.inl h12))))))))))))
  by_cases h13 : k = ky13
  · exact .inr (.inr (.inr (.inr (.inr (.inr (.inr (.inr (.inr (.inr (.inr (.inr (.inr (.inl h13)))))))))))))
  by_cases h14 : k = ky14
  · exact .inr (.inr (.inr (.inr (.inr (.inr (.inr (.inr (.inr (.inr (.inr (.inr (.inr (.inr (.inl h14))))))))))))))
  by_cases h15 : k = ky15
  · exact .inr (.inr (.inr (.inr (.inr (.inr (.inr (.inr (.inr (.inr (.inr (.inr (.inr (.inr (.inr (.inl h15)))))))))))))))
  by_cases h16 : k = ky16
  · exact .inr (.inr (.inr (.inr (.inr (.inr (.inr (.inr (.inr (.inr (.inr (.inr (.inr (.inr (.inr (.inr (.inl h16))))))))))))))))
  by_cases h17 : k = ky17
  · exact .inr (.inr (.inr (.inr (.inr (.inr (.inr (.inr (.inr (.inr (.inr (.inr (.inr (.inr (.inr (.inr (.inr (.inl h17)))))))))))))))))
  by_cases h18 : k = ky18
  · exact .inr (.inr (.inr (.inr (.inr (.inr (.inr (.inr (.inr (.inr (.inr (.inr (.inr (.inr (.inr (.inr (.inr (.inr (.inl h18))))))))))))))))))
  by_cases h19 : k = ky19
  · exact .inr (.inr (.inr (.inr (.inr (.inr (.inr (.inr (.inr (.inr (.inr (.inr (.inr (.inr (.inr (.inr (.inr (.inr (.inr (.inl h19)))))))))))))))))))
  by_cases h20 : k = ky20
  · exact .inr (.inr (.inr (.inr (.inr (.inr (.inr (.inr (.inr (.inr (.inr (.inr (.inr (.inr (.inr (.inr (.inr (.inr (.inr (.inr (.inl h20))))))))))))))))))))
  exact .inr (.inr (.inr (.inr (.inr (.inr (.inr (.inr (.inr (.inr (.inr (.inr (.inr (.inr (.inr (.inr (.inr (.inr (.inr (.inr (.inr (⟨by unfold keyIx; rw [if_neg h0, if_neg h1, if_neg h2, if_neg h3, if_neg h4, if_neg h5, if_neg h6, if_neg h7, if_neg h8, if_neg h9, if_neg h10, if_neg h11, if_neg h12, if_neg h13, if_neg h14, if_neg h15, if_neg h16, if_neg h17, if_neg h18, if_neg h19, if_neg h20], hb _ h0, hb _ h1, hb _ h2, hb _ h3, hb _ h4, hb _ h5, hb _ h6, hb _ h7, hb _ h8, hb _ h9, hb _ h10, hb _ h11, hb _ h12, hb _ h13, hb _ h14, hb _ h15, hb _ h16, hb _ h17, hb _ h18, hb _ h19, hb _ h20⟩)))))))))))))))))))))
def keyL : List ByteArray := [ky0, ky1, ky2, ky3, ky4, ky5, ky6, ky7, ky8, ky9, ky10, ky11, ky12, ky13, ky14, ky15, ky16, ky17, ky18, ky19, ky20]
theorem keyL_dist : ∀ i j : Fin 21, decide (keyL[j] = keyL[i]) = decide (i.val = j.val) := by decide +kernel
/-- how a key's comparison with each of the table's comes out -/
def KF (k : ByteArray) (j : Nat) : Prop := ∀ (i : Nat) (x : ByteArray), keyL[i]? = some x → (k.toList == x.toList) = decide (i = j)
theorem kf_lit (j : Fin 21) : KF keyL[j] j.val := by
  intro i x h
  have hi : i < keyL.length := by
    rcases Nat.lt_or_ge i keyL.length with h1 | h1
    · exact h1
    · rw [List.getElem?_eq_none h1] at h; cases h
  rw [List.getElem?_eq_getElem hi] at h
  cases h
  rw [beq_toList]
  exact keyL_dist ⟨i, hi⟩ j
theorem kf_any (k : ByteArray) : KF k (keyIx k) ∧ keyIx k ≤ 21 := by
  rcases key_cases k with rfl | rfl | rfl | rfl | rfl | rfl | rfl | rfl | rfl | rfl | rfl | rfl | rfl | rfl | rfl | rfl | rfl | rfl | rfl | rfl | rfl | ⟨h, h0, h1, h2, h3, h4, h5, h6, h7, h8, h9, h10, h11, h12, h13, h14, h15, h16, h17, h18, h19, h20⟩
  · rw [keyIx_0]; exact ⟨kf_lit ⟨0, by decide⟩, by decide⟩
  · rw [keyIx_1]; exact ⟨kf_lit ⟨1, by decide⟩, by decide⟩
  · rw [keyIx_2]; exact ⟨kf_lit ⟨2, by decide⟩, by decide⟩
  · rw [keyIx_3]; exact ⟨kf_lit ⟨3, by decide⟩, by decide⟩
  · rw [keyIx_4]; exact ⟨kf_lit ⟨4, by decide⟩, by decide⟩
  · rw [keyIx_5]; exact ⟨kf_lit ⟨5, by decide⟩, by decide⟩
  · rw [keyIx_6]; exact ⟨kf_lit ⟨6, by decide⟩, by decide⟩
  · rw [keyIx_7]; exact ⟨kf_lit ⟨7, by decide⟩, by decide⟩
  · rw [keyIx_8]; exact ⟨kf_lit ⟨8, by decide⟩, by decide⟩
  · rw [keyIx_9]; exact ⟨kf_lit ⟨9, by decide⟩, by decide⟩
  · rw [keyIx_10]; exact ⟨kf_lit ⟨10, by decide⟩, by decide⟩
  · rw [keyIx_11]; exact ⟨kf_lit ⟨11, by decide⟩, by decide⟩
  · rw [keyIx_12]; exact ⟨kf_lit ⟨12, by decide⟩, by decide⟩
  · rw [keyIx_13]; exact ⟨kf_lit ⟨13, by decide⟩, by decide⟩
  · rw [keyIx_14]; exact ⟨kf_lit ⟨14, by decide⟩, by decide⟩
  · rw [keyIx_15]; exact ⟨kf_lit ⟨15, by decide⟩, by decide⟩
  · rw [keyIx_16]; exact ⟨kf_lit ⟨16, by decide⟩, by decide⟩
  · rw [keyIx_17]; exact ⟨kf_lit ⟨17, by decide⟩, by decide⟩
  · rw [keyIx_18]; exact ⟨kf_lit ⟨18, by decide⟩, by decide⟩
  · rw [keyIx_19]; exact ⟨kf_lit ⟨19, by decide⟩, by decide⟩
  · rw [keyIx_20]; exact ⟨kf_lit ⟨20, by decide⟩, by decide⟩
  · rw [h]
    refine ⟨fun i x hx => ?_, Nat.le_refl _⟩
    have hi : i < keyL.length := by
      rcases Nat.lt_or_ge i keyL.length with h1 | h1
      · exact h1
      · rw [List.getElem?_eq_none h1] at hx; cases hx
    have hi2 : i < 21 := hi
    rw [decide_eq_false (by omega)]
    match i, hi2, hx with
    | 0, _, hx => cases hx; exact h0
    | 1, _, hx => cases hx; exact h1
    | 2, _, hx => cases hx; exact h2
    | 3, _, hx => cases hx; exact h3
    | 4, _, hx => cases hx; exact h4
    | 5, _, hx => cases hx; exact h5
    | 6, _, hx => cases hx; exact h6
    | 7, _, hx => cases hx; exact h7
    | 8, _, hx => cases hx; exact h8
    | 9, _, hx => cases hx; exact h9
    | 10, _, hx => cases hx; exact h10
    | 11, _, hx => cases hx; exact h11
    | 12, _, hx => cases hx; exact h12
    | 13, _, hx => cases hx; exact h13
    | 14, _, hx => cases hx; exact h14
    | 15, _, hx => cases hx; exact h15
    | 16, _, hx => cases hx; exact h16
    | 17, _, hx => cases hx; exact h17
    | 18, _, hx => cases hx; exact h18
    | 19, _, hx => cases hx; exact h19
    | 20, _, hx => cases hx; exact h20
theorem nat22 {j : Nat} (h : j ≤ 21) : j = 0 ∨ j = 1 ∨ j = 2 ∨ j = 3 ∨ j = 4 ∨ j = 5 ∨ j = 6 ∨ j = 7 ∨ j = 8 ∨ j = 9 ∨ j = 10 ∨ j = 11 ∨ j = 12 ∨ j = 13 ∨ j = 14 ∨ j = 15 ∨ j = 16 ∨ j = 17 ∨ j = 18 ∨ j = 19 ∨ j = 20 ∨ j = 21 := by omega
structure Rl where
  f : Int
  lo : Int
  hi : Int
  an : ByteArray
def Rl.c (r : Rl) : List Value := [.int .i64 r.f, .int .i64 r.lo, .int .i64 r.hi, .string r.an]
/-- the rule of a key -/
def rlI : Nat → Rl
  | 0 => ⟨1, 0, 0, ⟨#[]⟩⟩
  | 1 => ⟨1, 0, 0, ⟨#[]⟩⟩
  | 2 => ⟨3, 0, 0, ⟨#[]⟩⟩
  | 3 => ⟨0, 0, 0, ⟨#[]⟩⟩
  | 4 => ⟨2, 0, 0, ⟨#[]⟩⟩
  | 5 => ⟨2, 0, 0, ⟨#[]⟩⟩
  | 6 => ⟨2, 0, 0, ⟨#[]⟩⟩
  | 7 => ⟨5, 512, 16777215, ⟨#[]⟩⟩
  | 8 => ⟨5, 512, 16777215, ⟨#[]⟩⟩
  | 9 => ⟨5, 512, 16777215, ⟨#[]⟩⟩
  | 10 => ⟨4, 0, 0, ⟨#[]⟩⟩
  | 11 => ⟨4, 0, 0, ⟨#[]⟩⟩
  | 12 => ⟨5, 1, 65535, ⟨#[49]⟩⟩
  | 13 => ⟨5, 1, 65535, ⟨#[49]⟩⟩
  | 14 => ⟨5, 0, 2, ⟨#[48]⟩⟩
  | 15 => ⟨5, 0, 3600, ⟨#[]⟩⟩
  | 16 => ⟨5, 0, 3600, ⟨#[48]⟩⟩
  | 17 => ⟨4, 0, 0, ⟨#[89, 101, 115]⟩⟩
  | 18 => ⟨4, 0, 0, ⟨#[89, 101, 115]⟩⟩
  | 19 => ⟨4, 0, 0, ⟨#[78, 111]⟩⟩
  | 20 => ⟨4, 0, 0, ⟨#[78, 111]⟩⟩
  | _ => ⟨0, 0, 0, ⟨#[]⟩⟩
abbrev yesS : ByteArray := ⟨#[89, 101, 115]⟩
abbrev noS : ByteArray := ⟨#[78, 111]⟩
abbrev normS : ByteArray := ⟨#[78, 111, 114, 109, 97, 108]⟩
abbrev discS : ByteArray := ⟨#[68, 105, 115, 99, 111, 118, 101, 114, 121]⟩
abbrev noneS : ByteArray := ⟨#[78, 111, 110, 101]⟩
abbrev crcS : ByteArray := ⟨#[67, 82, 67, 51, 50, 67]⟩
abbrev rejS : ByteArray := ⟨#[82, 101, 106, 101, 99, 116]⟩
abbrev unkS : ByteArray := ⟨#[78, 111, 116, 85, 110, 100, 101, 114, 115, 116, 111, 111, 100]⟩
/-- whether a value is what a rule takes -/
def takesM (r : Rl) (v : ByteArray) : Bool :=
  if r.f = 1 then !v.toList.isEmpty
  else if r.f = 3 then v.toList == normS.toList || v.toList == discS.toList
  else if r.f = 4 then v.toList == yesS.toList || v.toList == noS.toList
  else if r.f = 5 then (nuR v.data.toList).2 == 0 && (decide (r.lo ≤ (nuR v.data.toList).1) && decide ((nuR v.data.toList).1 ≤ r.hi))
  else true
/-- a list, cut at its first comma -/
def cutC : List UInt8 → Option (List UInt8 × List UInt8)
  | [] => none
  | c :: l => if c = 44 then some ([], l) else (cutC l).map fun x => (c :: x.1, x.2)
def cutS (s : ByteArray) : ByteArray × ByteArray × Bool :=
  match cutC s.data.toList with
  | none => (s, ⟨#[]⟩, false)
  | some (x, y) => (mkS x, mkS y, true)
theorem cutC_none {l : List UInt8} (h : ∀ k : Nat, l[k]? ≠ some 44) : cutC l = none := by
  induction l with
  | nil => rfl
  | cons c l ih =>
    unfold cutC
    rw [if_neg (fun e => h 0 (by simp [e])), ih (fun k => by have := h (k + 1); simpa using this)]
    rfl
theorem cutC_some {l : List UInt8} {o : Nat} (h : l[o]? = some 44) (hn : ∀ k : Nat, k < o → l[k]? ≠ some 44) : cutC l = some (l.take o, l.drop (o + 1)) := by
  induction l generalizing o with
  | nil => simp at h
  | cons c l ih =>
    unfold cutC
    cases o with
    | zero =>
      have e : c = 44 := by simpa using h
      rw [if_pos e]; rfl
    | succ o =>
      rw [if_neg (fun e => hn 0 (by omega) (by simp [e])), ih (o := o) (by simpa using h) (fun k hk => by have := hn (k + 1) (by omega); simpa using this)]
      rfl
theorem cutC_short {l x y : List UInt8} (h : cutC l = some (x, y)) : x.length + 1 + y.length = l.length := by
  induction l generalizing x y with
  | nil => cases h
  | cons c l ih =>
    unfold cutC at h
    split at h
    · cases h; simp; omega
    · cases hc : cutC l with
      | none => rw [hc] at h; cases h
      | some p =>
        rw [hc] at h
        obtain ⟨a, b⟩ := p
        cases h
        have := ih hc
        simp only [List.length_cons]; omega
/-- the first word of a list that is one of those that are known -/
def firstN : Nat → List ByteArray → ByteArray → ByteArray
  | 0, _, _ => rejS
  | n + 1, ks, s => if Lib.containsS ks (cutS s).1 then (cutS s).1 else if (cutS s).2.2 then firstN n ks (cutS s).2.1 else rejS
theorem cutS_less {s : ByteArray} (h : (cutS s).2.2 = true) : (cutS s).2.1.size < s.size := by
  unfold cutS at *
  split
  · rename_i hc; rw [hc] at h; cases h
  · rename_i x y hc
    have := cutC_short hc
    have e : s.data.toList.length = s.size := by simp
    have e2 : (mkS y).size = y.length := by simp [mkS, ByteArray.size]
    simp only [e2]
    omega
theorem firstN_fuel (ks : List ByteArray) : ∀ (n m : Nat) (s : ByteArray), s.size < n → s.size < m → firstN n ks s = firstN m ks s := by
  intro n
  induction n with
  | zero => intro m s h; omega
  | succ n ih =>
    intro m s h1 h2
    cases m with
    | zero => omega
    | succ m =>
      unfold firstN
      split
      · rfl
      · split
        · rename_i hc
          have := cutS_less hc
          exact ih m _ (by omega) (by omega)
        · rfl
def firstM (ks : List ByteArray) (s : ByteArray) : ByteArray := firstN (s.size + 1) ks s
theorem firstM_yes {ks : List ByteArray} {s : ByteArray} (h : Lib.containsS ks (cutS s).1 = true) : firstM ks s = (cutS s).1 := by
  unfold firstM firstN
  rw [if_pos h]
theorem firstM_next {ks : List ByteArray} {s : ByteArray} (h : Lib.containsS ks (cutS s).1 = false) (h2 : (cutS s).2.2 = true) : firstM ks s = firstM ks (cutS s).2.1 := by
  unfold firstM
  conv => lhs; unfold firstN
  rw [if_neg (by rw [h]; decide), if_pos h2]
  have := cutS_less h2
  exact firstN_fuel ks _ _ _ (by omega) (by omega)
theorem firstM_end {ks : List ByteArray} {s : ByteArray} (h : Lib.containsS ks (cutS s).1 = false) (h2 : (cutS s).2.2 = false) : firstM ks s = rejS := by
  unfold firstM firstN
  rw [if_neg (by rw [h]; decide), if_neg (by rw [h2]; decide)]
/-- what is agreed on -/
structure Pm18 where
  hs : Bool
  ds : Bool
  mo : Int
  mi : Int
  bu : Int
  fi : Int
  a : Bool
  imd : Bool
  di : Bool
  ini : ByteArray
  tgt : ByteArray
def Pm18.c (p : Pm18) : List Value := [.bool p.hs, .bool p.ds, .int .i64 p.mo, .int .i64 p.mi, .int .i64 p.bu, .int .i64 p.fi, .bool p.a, .bool p.imd, .bool p.di, .string p.ini, .string p.tgt]
def digS (n : Int) : ByteArray := ⟨(dgT n).toArray⟩
def ynS (b : Bool) : ByteArray := if b then yesS else noS
/-- the answer to a pair that its rule takes, and what holds then -/
def agM (ix : Nat) (an : ByteArray) (p : Pm18) (v : ByteArray) : Pm18 × ByteArray × Bool :=
  let n := (nuR v.data.toList).1
  match ix with
  | 0 => ({ p with ini := v }, ⟨#[]⟩, false)
  | 1 => ({ p with tgt := v }, ⟨#[]⟩, false)
  | 2 => ({ p with di := v.toList == discS.toList }, ⟨#[]⟩, false)
  | 3 => (p, ⟨#[]⟩, false)
  | 4 => (p, firstM [noneS] v, true)
  | 5 => (if (firstM [noneS, crcS] v).toList == rejS.toList then p else { p with hs := (firstM [noneS, crcS] v).toList == crcS.toList }, firstM [noneS, crcS] v, true)
  | 6 => (if (firstM [noneS, crcS] v).toList == rejS.toList then p else { p with ds := (firstM [noneS, crcS] v).toList == crcS.toList }, firstM [noneS, crcS] v, true)
  | 7 => ({ p with mo := min n 65536 }, ⟨#[]⟩, false)
  | 8 => ({ p with bu := min n p.bu }, digS (min n p.bu), true)
  | 9 => ({ p with fi := min n p.fi }, digS (min n p.fi), true)
  | 10 => ({ p with a := p.a || v.toList == yesS.toList }, ynS (p.a || v.toList == yesS.toList), true)
  | 11 => ({ p with imd := p.imd && v.toList == yesS.toList }, ynS (p.imd && v.toList == yesS.toList), true)
  | 15 => (p, digS (max n 2), true)
  | _ => (p, an, true)
/-- one pair -/
def oneM (now : Pm18) (out : List Pr) (x : Pr) : Option (Pm18 × List Pr) :=
  if keyIx x.1 = 21 then some (now, out ++ [(x.1, unkS)])
  else if takesM (rlI (keyIx x.1)) x.2 then
    some ((agM (keyIx x.1) (rlI (keyIx x.1)).an now x.2).1, if (agM (keyIx x.1) (rlI (keyIx x.1)).an now x.2).2.2 then out ++ [(x.1, (agM (keyIx x.1) (rlI (keyIx x.1)).an now x.2).2.1)] else out)
  else none
def tkN : List Pr → Pm18 → List Pr → Option (Pm18 × List Pr)
  | [], now, out => some (now, out)
  | x :: l, now, out => (oneM now out x).bind fun y => tkN l y.1 y.2
/-- what Talk answers -/
def talkM (p : Pm18) (l : List Pr) : List Pr × Pm18 × Int :=
  match tkN l p [] with
  | none => ([], p, 1)
  | some (now, out) => (out, { now with fi := min now.fi now.bu }, 0)
end Go.Proofs.YtligmiajlbjecaaDoor

/- text: ruleOf of any key. -/
namespace Go.Proofs.YtligmiajlbjecaaDoor
open Go.RowKit
set_option linter.unusedVariables false
set_option linter.unusedSimpArgs false
set_option maxRecDepth 8000

theorem exec_eqS {w : World} {a : Act} {o : Oper} {x y : Operand} {T2 : TypeId} (ho : o.op = .binOp .eql 9 x y T2) {s t : ByteArray} {b : Bool} (hx : a.eval x = .string s) (hy : a.eval y = .string t) (h : (s.toList == t.toList) = b) : (execOp a.eval o).run Tryd.prog w = .ok (.value (.bool b)) w := by
  have hb : (binOp .eql 9 (.string s) (.string t)).run Tryd.prog w = .ok (.bool b) w := by
    rw [← h]
    simp [binOp, Op.stringOp, go_sem, Tryd.underlying9]
  have hg : ∀ x y, (eqGuard .eql 9 x y (.string s) (.string t)).run Tryd.prog w = .ok () w := fun x y => by
    simp [eqGuard, go_sem, Tryd.underlying9]
  unfold execOp
  simp only [ho, hx, hy, Sem.run_bind, hg, hb, Result.andThen_ok, Sem.run_pure]
set_option maxHeartbeats 4000000 in
theorem tRl_0 (k : ByteArray) (w : World) (hk : KF k 0) : Calls Tryd.prog 36 #[.string k] w fun e w' => e = .returned (.tuple #[.agg #[.int .i64 1, .int .i64 0, .int .i64 0, .string ⟨#[]⟩], .bool true]) ∧ Below w.heap.size w w' := by
  have HK : Hid _ := hk
  clear hk
  have b : Below w.heap.size w (w.alloc (.cells #[.int .i64 1, .int .i64 0, .int .i64 0, .string ⟨#[]⟩] 65)) := (Below.refl _ _).alloc (Nat.le_refl _) _
  have B := Blk.new' w 65 [.int .i64 1, .int .i64 0, .int .i64 0, .string ⟨#[]⟩]
  obtain ⟨w1, hw1⟩ : ∃ w1, w1 = w.alloc (.cells #[.int .i64 1, .int .i64 0, .int .i64 0, .string ⟨#[]⟩] 65) := ⟨_, rfl⟩
  rw [← hw1] at b B
  have F : Hid _ := And.intro B b
  clear B b
  go_enter Tryd.func36, Tryd.ntmps36
  go_upto_region 2 with fail
  have E0 : Hid _ := (HK.out 0 _ rfl)
  go_wp2_with (refine wpList_value rfl (exec_eqS rfl rfl rfl (b := true) E0.out) ?_)
  rw [← hw1]
  clear hw1
  have y0 := ck_at F.out.1 0
  have y1 := ck_at F.out.1 1
  have y2 := ck_at F.out.1 2
  have y3 := ck_at F.out.1 3
  simp only [List.getElem?_cons_zero, List.getElem?_cons_succ] at y0 y1 y2 y3
  refine bodyPost_ret (v := .tuple #[.agg #[.int .i64 1, .int .i64 0, .int .i64 0, .string ⟨#[]⟩], .bool true]) (by simp [results, Tryd.results36, go_sem, y0, y1, y2, y3]) rfl ?_
  exact ⟨rfl, F.out.2⟩
set_option maxHeartbeats 4000000 in
theorem tRl_1 (k : ByteArray) (w : World) (hk : KF k 1) : Calls Tryd.prog 36 #[.string k] w fun e w' => e = .returned (.tuple #[.agg #[.int .i64 1, .int .i64 0, .int .i64 0, .string ⟨#[]⟩], .bool true]) ∧ Below w.heap.size w w' := by
  have HK : Hid _ := hk
  clear hk
  have b : Below w.heap.size w (w.alloc (.cells #[.int .i64 1, .int .i64 0, .int .i64 0, .string ⟨#[]⟩] 65)) := (Below.refl _ _).alloc (Nat.le_refl _) _
  have B := Blk.new' w 65 [.int .i64 1, .int .i64 0, .int .i64 0, .string ⟨#[]⟩]
  obtain ⟨w1, hw1⟩ : ∃ w1, w1 = w.alloc (.cells #[.int .i64 1, .int .i64 0, .int .i64 0, .string ⟨#[]⟩] 65) := ⟨_, rfl⟩
  rw [← hw1] at b B
  have F : Hid _ := And.intro B b
  clear B b
  go_enter Tryd.func36, Tryd.ntmps36
  go_upto_region 2 with fail
  have E0 : Hid _ := (HK.out 0 _ rfl)
  go_upto_region 3 with (refine wpList_value rfl (exec_eqS rfl rfl rfl (b := false) E0.out) ?_)
  have E1 : Hid _ := (HK.out 1 _ rfl)
  go_wp2_with (refine wpList_value rfl (exec_eqS rfl rfl rfl (b := true) E1.out) ?_)
  rw [← hw1]
  clear hw1
  have y0 := ck_at F.out.1 0
  have y1 := ck_at F.out.1 1
  have y2 := ck_at F.out.1 2
  have y3 := ck_at F.out.1 3
  simp only [List.getElem?_cons_zero, List.getElem?_cons_succ] at y0 y1 y2 y3
  refine bodyPost_ret (v := .tuple #[.agg #[.int .i64 1, .int .i64 0, .int .i64 0, .string ⟨#[]⟩], .bool true]) (by simp [results, Tryd.results36, go_sem, y0, y1, y2, y3]) rfl ?_
  exact ⟨rfl, F.out.2⟩
set_option maxHeartbeats 4000000 in
theorem tRl_2 (k : ByteArray) (w : World) (hk : KF k 2) : Calls Tryd.prog 36 #[.string k] w fun e w' => e = .returned (.tuple #[.agg #[.int .i64 3, .int .i64 0, .int .i64 0, .string ⟨#[]⟩], .bool true]) ∧ Below w.heap.size w w' := by
  have HK : Hid _ := hk
  clear hk
  have b : Below w.heap.size w (w.alloc (.cells #[.int .i64 3, .int .i64 0, .int .i64 0, .string ⟨#[]⟩] 65)) := (Below.refl _ _).alloc (Nat.le_refl _) _
  have B := Blk.new' w 65 [.int .i64 3, .int .i64 0, .int .i64 0, .string ⟨#[]⟩]
  obtain ⟨w1, hw1⟩ : ∃ w1, w1 = w.alloc (.cells #[.int .i64 3, .int .i64 0, .int .i64 0, .string ⟨#[]⟩] 65) := ⟨_, rfl⟩
  rw [← hw1] at b B
  have F : Hid _ := And.intro B b
  clear B b
  go_enter Tryd.func36, Tryd.ntmps36
  go_upto_region 2 with fail
  have E0 : Hid _ := (HK.out 0 _ rfl)
  go_upto_region 3 with (refine wpList_value rfl (exec_eqS rfl rfl rfl (b := false) E0.out) ?_)
  have E1 : Hid _ := (HK.out 1 _ rfl)
  go_upto_region 5 with (refine wpList_value rfl (exec_eqS rfl rfl rfl (b := false) E1.out) ?_)
  have E2 : Hid _ := (HK.out 2 _ rfl)
  go_wp2_with (refine wpList_value rfl (exec_eqS rfl rfl rfl (b := true) E2.out) ?_)
  rw [← hw1]
  clear hw1
  have y0 := ck_at F.out.1 0
  have y1 := ck_at F.out.1 1
  have y2 := ck_at F.out.1 2
  have y3 := ck_at F.out.1 3
  simp only [List.getElem?_cons_zero, List.getElem?_cons_succ] at y0 y1 y2 y3
  refine bodyPost_ret (v := .tuple #[.agg #[.int .i64 3, .int .i64 0, .int .i64 0, .string ⟨#[]⟩], .bool true]) (by simp [results, Tryd.results36, go_sem, y0, y1, y2, y3]) rfl ?_
  exact ⟨rfl, F.out.2⟩
set_option maxHeartbeats 4000000 in
theorem tRl_3 (k : ByteArray) (w : World) (hk : KF k 3) : Calls Tryd.prog 36 #[.string k] w fun e w' => e = .returned (.tuple #[.agg #[.int .i64 0, .int .i64 0, .int .i64 0, .string ⟨#[]⟩], .bool true]) ∧ Below w.heap.size w w' := by
  have HK : Hid _ := hk
  clear hk
  have b : Below w.heap.size w (w.alloc (.cells #[.int .i64 0, .int .i64 0, .int .i64 0, .string ⟨#[]⟩] 65)) := (Below.refl _ _).alloc (Nat.le_refl _) _
  have B := Blk.new' w 65 [.int .i64 0, .int .i64 0, .int .i64 0, .string ⟨#[]⟩]
  obtain ⟨w1, hw1⟩ : ∃ w1, w1 = w.alloc (.cells #[.int .i64 0, .int .i64 0, .int .i64 0, .string ⟨#[]⟩] 65) := ⟨_, rfl⟩
  rw [← hw1] at b B
  have F : Hid _ := And.intro B b
  clear B b
  go_enter Tryd.func36, Tryd.ntmps36
  go_upto_region 2 with fail
  have E0 : Hid _ := (HK.out 0 _ rfl)
  go_upto_region 3 with (refine wpList_value rfl (exec_eqS rfl rfl rfl (b := false) E0.out) ?_)
  have E1 : Hid _ := (HK.out 1 _ rfl)
  go_upto_region 5 with (refine wpList_value rfl (exec_eqS rfl rfl rfl (b := false) E1.out) ?_)
  have E2 : Hid _ := (HK.out 2 _ rfl)
  go_upto_region 7 with (refine wpList_value rfl (exec_eqS rfl rfl rfl (b := false) E2.out) ?_)
  have E3 : Hid _ := (HK.out 3 _ rfl)
  go_wp2_with (refine wpList_value rfl (exec_eqS rfl rfl rfl (b := true) E3.out) ?_)
  rw [← hw1]
  clear hw1
  have y0 := ck_at F.out.1 0
  have y1 := ck_at F.out.1 1
  have y2 := ck_at F.out.1 2
  have y3 := ck_at F.out.1 3
  simp only [List.getElem?_cons_zero, List.getElem?_cons_succ] at y0 y1 y2 y3
  refine bodyPost_ret (v := .tuple #[.agg #[.int .i64 0, .int .i64 0, .int .i64 0, .string ⟨#[]⟩], .bool true]) (by simp [results, Tryd.results36, go_sem, y0, y1, y2, y3]) rfl ?_
  exact ⟨rfl, F.out.2⟩
set_option maxHeartbeats 4000000 in
theorem tRl_4 (k : ByteArray) (w : World) (hk : KF k 4) : Calls Tryd.prog 36 #[.string k] w fun e w' => e = .returned (.tuple #[.agg #[.int .i64 2, .int .i64 0, .int .i64 0, .string ⟨#[]⟩], .bool true]) ∧ Below w.heap.size w w' := by
  have HK : Hid _ := hk
  clear hk
  have b : Below w.heap.size w (w.alloc (.cells #[.int .i64 2, .int .i64 0, .int .i64 0, .string ⟨#[]⟩] 65)) := (Below.refl _ _).alloc (Nat.le_refl _) _
  have B := Blk.new' w 65 [.int .i64 2, .int .i64 0, .int .i64 0, .string ⟨#[]⟩]
  obtain ⟨w1, hw1⟩ : ∃ w1, w1 = w.alloc (.cells #[.int .i64 2, .int .i64 0, .int .i64 0, .string ⟨#[]⟩] 65) := ⟨_, rfl⟩
  rw [← hw1] at b B
  have F : Hid _ := And.intro B b
  clear B b
  go_enter Tryd.func36, Tryd.ntmps36
  go_upto_region 2 with fail
  have E0 : Hid _ := (HK.out 0 _ rfl)
  go_upto_region 3 with (refine wpList_value rfl (exec_eqS rfl rfl rfl (b := false) E0.out) ?_)
  have E1 : Hid _ := (HK.out 1 _ rfl)
  go_upto_region 5 with (refine wpList_value rfl (exec_eqS rfl rfl rfl (b := false) E1.out) ?_)
  have E2 : Hid _ := (HK.out 2 _ rfl)
  go_upto_region 7 with (refine wpList_value rfl (exec_eqS rfl rfl rfl (b := false) E2.out) ?_)
  have E3 : Hid _ := (HK.out 3 _ rfl)
  go_upto_region 9 with (refine wpList_value rfl (exec_eqS rfl rfl rfl (b := false) E3.out) ?_)
  have E4 : Hid _ := (HK.out 4 _ rfl)
  go_wp2_with (refine wpList_value rfl (exec_eqS rfl rfl rfl (b := true) E4.out) ?_)
  rw [← hw1]
  clear hw1
  have y0 := ck_at F.out.1 0
  have y1 := ck_at F.out.1 1
  have y2 := ck_at F.out.1 2
  have y3 := ck_at F.out.1 3
  simp only [List.getElem?_cons_zero, List.getElem?_cons_succ] at y0 y1 y2 y3
  refine bodyPost_ret (v := .tuple #[.agg #[.int .i64 2, .int .i64 0, .int .i64 0, .string ⟨#[]⟩], .bool true]) (by simp [results, Tryd.results36, go_sem, y0, y1, y2, y3]) rfl ?_
  exact ⟨rfl, F.out.2⟩
set_option maxHeartbeats 4000000 in
theorem tRl_5 (k : ByteArray) (w : World) (hk : KF k 5) : Calls Tryd.prog 36 #[.string k] w fun e w' => e = .returned (.tuple #[.agg #[.int .i64 2, .int .i64 0, .int .i64 0, .string ⟨#[]⟩], .bool true]) ∧ Below w.heap.size w w' := by
  have HK : Hid _ := hk
  clear hk
  have b : Below w.heap.size w (w.alloc (.cells #[.int .i64 2, .int .i64 0, .int .i64 0, .string ⟨#[]⟩] 65)) := (Below.refl _ _).alloc (Nat.le_refl _) _
  have B := Blk.new' w 65 [.int .i64 2, .int .i64 0, .int .i64 0, .string ⟨#[]⟩]
  obtain ⟨w1, hw1⟩ : ∃ w1, w1 = w.alloc (.cells #[.int .i64 2, .int .i64 0, .int .i64 0, .string ⟨#[]⟩] 65) := ⟨_, rfl⟩
  rw [← hw1] at b B
  have F : Hid _ := And.intro B b
  clear B b
  go_enter Tryd.func36, Tryd.ntmps36
  go_upto_region 2 with fail
  have E0 : Hid _ := (HK.out 0 _ rfl)
  go_upto_region 3 with (refine wpList_value rfl (exec_eqS rfl rfl rfl (b := false) E0.out) ?_)
  have E1 : Hid _ := (HK.out 1 _ rfl)
  go_upto_region 5 with (refine wpList_value rfl (exec_eqS rfl rfl rfl (b := false) E1.out) ?_)
  have E2 : Hid _ := (HK.out 2 _ rfl)
  go_upto_region 7 with (refine wpList_value rfl (exec_eqS rfl rfl rfl (b := false) E2.out) ?_)
  have E3 : Hid _ := (HK.out 3 _ rfl)
  go_upto_region 9 with (refine wpList_value rfl (exec_eqS rfl rfl rfl (b := false) E3.out) ?_)
  have E4 : Hid _ := (HK.out 4 _ rfl)
  go_upto_region 10 with (refine wpList_value rfl (exec_eqS rfl rfl rfl (b := false) E4.out) ?_)
  have E5 : Hid _ := (HK.out 5 _ rfl)
  go_wp2_with (refine wpList_value rfl (exec_eqS rfl rfl rfl (b := true) E5.out) ?_)
  rw [← hw1]
  clear hw1
  have y0 := ck_at F.out.1 0
  have y1 := ck_at F.out.1 1
  have y2 := ck_at F.out.1 2
  have y3 := ck_at F.out.1 3
  simp only [List.getElem?_cons_zero, List.getElem?_cons_succ] at y0 y1 y2 y3
  refine bodyPost_ret (v := .tuple #[.agg #[.int .i64 2, .int .i64 0, .int .i64 0, .string ⟨#[]⟩], .bool true]) (by simp [results, Tryd.results36, go_sem, y0, y1, y2, y3]) rfl ?_
  exact ⟨rfl, F.out.2⟩
set_option maxHeartbeats 4000000 in
theorem tRl_6 (k : ByteArray) (w : World) (hk : KF k 6) : Calls Tryd.prog 36 #[.string k] w fun e w' => e = .returned (.tuple #[.agg #[.int .i64 2, .int .i64 0, .int .i64 0, .string ⟨#[]⟩], .bool true]) ∧ Below w.heap.size w w' := by
  have HK : Hid _ := hk
  clear hk
  have b : Below w.heap.size w (w.alloc (.cells #[.int .i64 2, .int .i64 0, .int .i64 0, .string ⟨#[]⟩] 65)) := (Below.refl _ _).alloc (Nat.le_refl _) _
  have B := Blk.new' w 65 [.int .i64 2, .int .i64 0, .int .i64 0, .string ⟨#[]⟩]
  obtain ⟨w1, hw1⟩ : ∃ w1, w1 = w.alloc (.cells #[.int .i64 2, .int .i64 0, .int .i64 0, .string ⟨#[]⟩] 65) := ⟨_, rfl⟩
  rw [← hw1] at b B
  have F : Hid _ := And.intro B b
  clear B b
  go_enter Tryd.func36, Tryd.ntmps36
  go_upto_region 2 with fail
  have E0 : Hid _ := (HK.out 0 _ rfl)
  go_upto_region 3 with (refine wpList_value rfl (exec_eqS rfl rfl rfl (b := false) E0.out) ?_)
  have E1 : Hid _ := (HK.out 1 _ rfl)
  go_upto_region 5 with (refine wpList_value rfl (exec_eqS rfl rfl rfl (b := false) E1.out) ?_)
  have E2 : Hid _ := (HK.out 2 _ rfl)
  go_upto_region 7 with (refine wpList_value rfl (exec_eqS rfl rfl rfl (b := false) E2.out) ?_)
  have E3 : Hid _ := (HK.out 3 _ rfl)
  go_upto_region 9 with (refine wpList_value rfl (exec_eqS rfl rfl rfl (b := false) E3.out) ?_)
  have E4 : Hid _ := (HK.out 4 _ rfl)
  go_upto_region 10 with (refine wpList_value rfl (exec_eqS rfl rfl rfl (b := false) E4.out) ?_)
  have E5 : Hid _ := (HK.out 5 _ rfl)
  go_upto_region 11 with (refine wpList_value rfl (exec_eqS rfl rfl rfl (b := false) E5.out) ?_)
  have E6 : Hid _ := (HK.out 6 _ rfl)
  go_wp2_with (refine wpList_value rfl (exec_eqS rfl rfl rfl (b := true) E6.out) ?_)
  rw [← hw1]
  clear hw1
  have y0 := ck_at F.out.1 0
  have y1 := ck_at F.out.1 1
  have y2 := ck_at F.out.1 2
  have y3 := ck_at F.out.1 3
  simp only [List.getElem?_cons_zero, List.getElem?_cons_succ] at y0 y1 y2 y3
  refine bodyPost_ret (v := .tuple #[.agg #[.int .i64 2, .int .i64 0, .int .i64 0, .string ⟨#[]⟩], .bool true]) (by simp [results, Tryd.results36, go_sem, y0, y1, y2, y3]) rfl ?_
  exact ⟨rfl, F.out.2⟩
set_option maxHeartbeats 4000000 in
theorem tRl_7 (k : ByteArray) (w : World) (hk : KF k 7) : Calls Tryd.prog 36 #[.string k] w fun e w' => e = .returned (.tuple #[.agg #[.int .i64 5, .int .i64 512, .int .i64 16777215, .string ⟨#[]⟩], .bool true]) ∧ Below w.heap.size w w' := by
  have HK : Hid _ := hk
  clear hk
  have b : Below w.heap.size w (w.alloc (.cells #[.int .i64 5, .int .i64 512, .int .i64 16777215, .string ⟨#[]⟩] 65)) := (Below.refl _ _).alloc (Nat.le_refl _) _
  have B := Blk.new' w 65 [.int .i64 5, .int .i64 512, .int .i64 16777215, .string ⟨#[]⟩]
  obtain ⟨w1, hw1⟩ : ∃ w1, w1 = w.alloc (.cells #[.int .i64 5, .int .i64 512, .int .i64 16777215, .string ⟨#[]⟩] 65) := ⟨_, rfl⟩
  rw [← hw1] at b B
  have F : Hid _ := And.intro B b
  clear B b
  go_enter Tryd.func36, Tryd.ntmps36
  go_upto_region 2 with fail
  have E0 : Hid _ := (HK.out 0 _ rfl)
  go_upto_region 3 with (refine wpList_value rfl (exec_eqS rfl rfl rfl (b := false) E0.out) ?_)
  have E1 : Hid _ := (HK.out 1 _ rfl)
  go_upto_region 5 with (refine wpList_value rfl (exec_eqS rfl rfl rfl (b := false) E1.out) ?_)
  have E2 : Hid _ := (HK.out 2 _ rfl)
  go_upto_region 7 with (refine wpList_value rfl (exec_eqS rfl rfl rfl (b := false) E2.out) ?_)
  have E3 : Hid _ := (HK.out 3 _ rfl)
  go_upto_region 9 with (refine wpList_value rfl (exec_eqS rfl rfl rfl (b := false) E3.out) ?_)
  have E4 : Hid _ := (HK.out 4 _ rfl)
  go_upto_region 10 with (refine wpList_value rfl (exec_eqS rfl rfl rfl (b := false) E4.out) ?_)
  have E5 : Hid _ := (HK.out 5 _ rfl)
  go_upto_region 11 with (refine wpList_value rfl (exec_eqS rfl rfl rfl (b := false) E5.out) ?_)
  have E6 : Hid _ := (HK.out 6 _ rfl)
  go_upto_region 13 with (refine wpList_value rfl (exec_eqS rfl rfl rfl (b := false) E6.out) ?_)
  have E7 : Hid _ := (HK.out 7 _ rfl)
  go_wp2_with (refine wpList_value rfl (exec_eqS rfl rfl rfl (b := true) E7.out) ?_)
  rw [← hw1]
  clear hw1
  have y0 := ck_at F.out.1 0
  have y1 := ck_at F.out.1 1
  have y2 := ck_at F.out.1 2
  have y3 := ck_at F.out.1 3
  simp only [List.getElem?_cons_zero, List.getElem?_cons_succ] at y0 y1 y2 y3
  refine bodyPost_ret (v := .tuple #[.agg #[.int .i64 5, .int .i64 512, .int .i64 16777215, .string ⟨#[]⟩], .bool true]) (by simp [results, Tryd.results36, go_sem, y0, y1, y2, y3]) rfl ?_
  exact ⟨rfl, F.out.2⟩
set_option maxHeartbeats 4000000 in
theorem tRl_8 (k : ByteArray) (w : World) (hk : KF k 8) : Calls Tryd.prog 36 #[.string k] w fun e w' => e = .returned (.tuple #[.agg #[.int .i64 5, .int .i64 512, .int .i64 16777215, .string ⟨#[]⟩], .bool true]) ∧ Below w.heap.size w w' := by
  have HK : Hid _ := hk
  clear hk
  have b : Below w.heap.size w (w.alloc (.cells #[.int .i64 5, .int .i64 512, .int .i64 16777215, .string ⟨#[]⟩] 65)) := (Below.refl _ _).alloc (Nat.le_refl _) _
  have B := Blk.new' w 65 [.int .i64 5, .int .i64 512, .int .i64 16777215, .string ⟨#[]⟩]
  obtain ⟨w1, hw1⟩ : ∃ w1, w1 = w.alloc (.cells #[.int .i64 5, .int .i64 512, .int .i64 16777215, .string ⟨#[]⟩] 65) := ⟨_, rfl⟩
  rw [← hw1] at b B
  have F : Hid _ := And.intro B b
  clear B b
  go_enter Tryd.func36, Tryd.ntmps36
  go_upto_region 2 with fail
  have E0 : Hid _ := (HK.out 0 _ rfl)
  go_upto_region 3 with (refine wpList_value rfl (exec_eqS rfl rfl rfl (b := false) E0.out) ?_)
  have E1 : Hid _ := (HK.out 1 _ rfl)
  go_upto_region 5 with (refine wpList_value rfl (exec_eqS rfl rfl rfl (b := false) E1.out) ?_)
  have E2 : Hid _ := (HK.out 2 _ rfl)
  go_upto_region 7 with (refine wpList_value rfl (exec_eqS rfl rfl rfl (b := false) E2.out) ?_)
  have E3 : Hid _ := (HK.out 3 _ rfl)
  go_upto_region 9 with (refine wpList_value rfl (exec_eqS rfl rfl rfl (b := false) E3.out) ?_)
  have E4 : Hid _ := (HK.out 4 _ rfl)
  go_upto_region 10 with (refine wpList_value rfl (exec_eqS rfl rfl rfl (b := false) E4.out) ?_)
  have E5 : Hid _ := (HK.out 5 _ rfl)
  go_upto_region 11 with (refine wpList_value rfl (exec_eqS rfl rfl rfl (b := false) E5.out) ?_)
  have E6 : Hid _ := (HK.out 6 _ rfl)
  go_upto_region 13 with (refine wpList_value rfl (exec_eqS rfl rfl rfl (b := false) E6.out) ?_)
  have E7 : Hid _ := (HK.out 7 _ rfl)
  go_upto_region 14 with (refine wpList_value rfl (exec_eqS rfl rfl rfl (b := false) E7.out) ?_)
  have E8 : Hid _ := (HK.out 8 _ rfl)
  go_wp2_with (refine wpList_value rfl (exec_eqS rfl rfl rfl (b := true) E8.out) ?_)
  rw [← hw1]
  clear hw1
  have y0 := ck_at F.out.1 0
  have y1 := ck_at F.out.1 1
  have y2 := ck_at F.out.1 2
  have y3 := ck_at F.out.1 3
  simp only [List.getElem?_cons_zero, List.getElem?_cons_succ] at y0 y1 y2 y3
  refine bodyPost_ret (v := .tuple #[.agg #[.int .i64 5, .int .i64 512, .int .i64 16777215, .string ⟨#[]⟩], .bool true]) (by simp [results, Tryd.results36, go_sem, y0, y1, y2, y3]) rfl ?_
  exact ⟨rfl, F.out.2⟩
set_option maxHeartbeats 4000000 in
theorem tRl_9 (k : ByteArray) (w : World) (hk : KF k 9) : Calls Tryd.prog 36 #[.string k] w fun e w' => e = .returned (.tuple #[.agg #[.int .i64 5, .int .i64 512, .int .i64 16777215, .string ⟨#[]⟩], .bool true]) ∧ Below w.heap.size w w' := by
  have HK : Hid _ := hk
  clear hk
  have b : Below w.heap.size w (w.alloc (.cells #[.int .i64 5, .int .i64 512, .int .i64 16777215, .string ⟨#[]⟩] 65)) := (Below.refl _ _).alloc (Nat.le_refl _) _
  have B := Blk.new' w 65 [.int .i64 5, .int .i64 512, .int .i64 16777215, .string ⟨#[]⟩]
  obtain ⟨w1, hw1⟩ : ∃ w1, w1 = w.alloc (.cells #[.int .i64 5, .int .i64 512, .int .i64 16777215, .string ⟨#[]⟩] 65) := ⟨_, rfl⟩
  rw [← hw1] at b B
  have F : Hid _ := And.intro B b
  clear B b
  go_enter Tryd.func36, Tryd.ntmps36
  go_upto_region 2 with fail
  have E0 : Hid _ := (HK.out 0 _ rfl)
  go_upto_region 3 with (refine wpList_value rfl (exec_eqS rfl rfl rfl (b := false) E0.out) ?_)
  have E1 : Hid _ := (HK.out 1 _ rfl)
  go_upto_region 5 with (refine wpList_value rfl (exec_eqS rfl rfl rfl (b := false) E1.out) ?_)
  have E2 : Hid _ := (HK.out 2 _ rfl)
  go_upto_region 7 with (refine wpList_value rfl (exec_eqS rfl rfl rfl (b := false) E2.out) ?_)
  have E3 : Hid _ := (HK.out 3 _ rfl)
  go_upto_region 9 with (refine wpList_value rfl (exec_eqS rfl rfl rfl (b := false) E3.out) ?_)
  have E4 : Hid _ := (HK.out 4 _ rfl)
  go_upto_region 10 with (refine wpList_value rfl (exec_eqS rfl rfl rfl (b := false) E4.out) ?_)
  have E5 : Hid _ := (HK.out 5 _ rfl)
  go_upto_region 11 with (refine wpList_value rfl (exec_eqS rfl rfl rfl (b := false) E5.out) ?_)
  have E6 : Hid _ := (HK.out 6 _ rfl)
  go_upto_region 13 with (refine wpList_value rfl (exec_eqS rfl rfl rfl (b := false) E6.out) ?_)
  have E7 : Hid _ := (HK.out 7 _ rfl)
  go_upto_region 14 with (refine wpList_value rfl (exec_eqS rfl rfl rfl (b := false) E7.out) ?_)
  have E8 : Hid _ := (HK.out 8 _ rfl)
  go_upto_region 15 with (refine wpList_value rfl (exec_eqS rfl rfl rfl (b := false) E8.out) ?_)
  have E9 : Hid _ := (HK.out 9 _ rfl)
  go_wp2_with (refine wpList_value rfl (exec_eqS rfl rfl rfl (b := true) E9.out) ?_)
  rw [← hw1]
  clear hw1
  have y0 := ck_at F.out.1 0
  have y1 := ck_at F.out.1 1
  have y2 := ck_at F.out.1 2
  have y3 := ck_at F.out.1 3
  simp only [List.getElem?_cons_zero, List.getElem?_cons_succ] at y0 y1 y2 y3
  refine bodyPost_ret (v := .tuple #[.agg #[.int .i64 5, .int .i64 512, .int .i64 16777215, .string ⟨#[]⟩], .bool true]) (by simp [results, Tryd.results36, go_sem, y0, y1, y2, y3]) rfl ?_
  exact ⟨rfl, F.out.2⟩
set_option maxHeartbeats 4000000 in
theorem tRl_10 (k : ByteArray) (w : World) (hk : KF k 10) : Calls Tryd.prog 36 #[.string k] w fun e w' => e = .returned (.tuple #[.agg #[.int .i64 4, .int .i64 0, .int .i64 0, .string ⟨#[]⟩], .bool true]) ∧ Below w.heap.size w w' := by
  have HK : Hid _ := hk
  clear hk
  have b : Below w.heap.size w (w.alloc (.cells #[.int .i64 4, .int .i64 0, .int .i64 0, .string ⟨#[]⟩] 65)) := (Below.refl _ _).alloc (Nat.le_refl _) _
  have B := Blk.new' w 65 [.int .i64 4, .int .i64 0, .int .i64 0, .string ⟨#[]⟩]
  obtain ⟨w1, hw1⟩ : ∃ w1, w1 = w.alloc (.cells #[.int .i64 4, .int .i64 0, .int .i64 0, .string ⟨#[]⟩] 65) := ⟨_, rfl⟩
  rw [← hw1] at b B
  have F : Hid _ := And.intro B b
  clear B b
  go_enter Tryd.func36, Tryd.ntmps36
  go_upto_region 2 with fail
  have E0 : Hid _ := (HK.out 0 _ rfl)
  go_upto_region 3 with (refine wpList_value rfl (exec_eqS rfl rfl rfl (b := false) E0.out) ?_)
  have E1 : Hid _ := (HK.out 1 _ rfl)
  go_upto_region 5 with (refine wpList_value rfl (exec_eqS rfl rfl rfl (b := false) E1.out) ?_)
  have E2 : Hid _ := (HK.out 2 _ rfl)
  go_upto_region 7 with (refine wpList_value rfl (exec_eqS rfl rfl rfl (b := false) E2.out) ?_)
  have E3 : Hid _ := (HK.out 3 _ rfl)
  go_upto_region 9 with (refine wpList_value rfl (exec_eqS rfl rfl rfl (b := false) E3.out) ?_)
  have E4 : Hid _ := (HK.out 4 _ rfl)
  go_upto_region 10 with (refine wpList_value rfl (exec_eqS rfl rfl rfl (b := false) E4.out) ?_)
  have E5 : Hid _ := (HK.out 5 _ rfl)
  go_upto_region 11 with (refine wpList_value rfl (exec_eqS rfl rfl rfl (b := false) E5.out) ?_)
  have E6 : Hid _ := (HK.out 6 _ rfl)
  go_upto_region 13 with (refine wpList_value rfl (exec_eqS rfl rfl rfl (b := false) E6.out) ?_)
  have E7 : Hid _ := (HK.out 7 _ rfl)
  go_upto_region 14 with (refine wpList_value rfl (exec_eqS rfl rfl rfl (b := false) E7.out) ?_)
  have E8 : Hid _ := (HK.out 8 _ rfl)
  go_upto_region 15 with (refine wpList_value rfl (exec_eqS rfl rfl rfl (b := false) E8.out) ?_)
  have E9 : Hid _ := (HK.out 9 _ rfl)
  go_upto_region 17 with (refine wpList_value rfl (exec_eqS rfl rfl rfl (b := false) E9.out) ?_)
  have E10 : Hid _ := (HK.out 10 _ rfl)
  go_wp2_with (refine wpList_value rfl (exec_eqS rfl rfl rfl (b := true) E10.out) ?_)
  rw [← hw1]
  clear hw1
  have y0 := ck_at F.out.1 0
  have y1 := ck_at F.out.1 1
  have y2 := ck_at F.out.1 2
  have y3 := ck_at F.out.1 3
  simp only [List.getElem?_cons_zero, List.getElem?_cons_succ] at y0 y1 y2 y3
  refine bodyPost_ret (v := .tuple #[.agg #[.int .i64 4, .int .i64 0, .int .i64 0, .string ⟨#[]⟩], .bool true]) (by simp [results, Tryd.results36, go_sem, y0, y1, y2, y3]) rfl ?_
  exact ⟨rfl, F.out.2⟩
set_option maxHeartbeats 4000000 in
theorem tRl_11 (k : ByteArray) (w : World) (hk : KF k 11) : Calls Tryd.prog 36 #[.string k] w fun e w' => e = .returned (.tuple #[.agg #[.int .i64 4, .int .i64 0, .int .i64 0, .string ⟨#[]⟩], .bool true]) ∧ Below w.heap.size w w' := by
  have HK : Hid _ := hk
  clear hk
  have b : Below w.heap.size w (w.alloc (.cells #[.int .i64 4, .int .i64 0, .int .i64 0, .string ⟨#[]⟩] 65)) := (Below.refl _ _).alloc (Nat.le_refl _) _
  have B := Blk.new' w 65 [.int .i64 4, .int .i64 0, .int .i64 0, .string ⟨#[]⟩]
  obtain ⟨w1, hw1⟩ : ∃ w1, w1 = w.alloc (.cells #[.int .i64 4, .int .i64 0, .int .i64 0, .string ⟨#[]⟩] 65) := ⟨_, rfl⟩
  rw [← hw1] at b B
  have F : Hid _ := And.intro B b
  clear B b
  go_enter Tryd.func36, Tryd.ntmps36
  go_upto_region 2 with fail
  have E0 : Hid _ := (HK.out 0 _ rfl)
  go_upto_region 3 with (refine wpList_value rfl (exec_eqS rfl rfl rfl (b := false) E0.out) ?_)
  have E1 : Hid _ := (HK.out 1 _ rfl)
  go_upto_region 5 with (refine wpList_value rfl (exec_eqS rfl rfl rfl (b := false) E1.out) ?_)
  have E2 : Hid _ := (HK.out 2 _ rfl)
  go_upto_region 7 with (refine wpList_value rfl (exec_eqS rfl rfl rfl (b := false) E2.out) ?_)
  have E3 : Hid _ := (HK.out 3 _ rfl)
  go_upto_region 9 with (refine wpList_value rfl (exec_eqS rfl rfl rfl (b := false) E3.out) ?_)
  have E4 : Hid _ := (HK.out 4 _ rfl)
  go_upto_region 10 with (refine wpList_value rfl (exec_eqS rfl rfl rfl (b := false) E4.out) ?_)
  have E5 : Hid _ := (HK.out 5 _ rfl)
  go_upto_region 11 with (refine wpList_value rfl (exec_eqS rfl rfl rfl (b := false) E5.out) ?_)
  have E6 : Hid _ := (HK.out 6 _ rfl)
  go_upto_region 13 with (refine wpList_value rfl (exec_eqS rfl rfl rfl (b := false) E6.out) ?_)
  have E7 : Hid _ := (HK.out 7 _ rfl)
  go_upto_region 14 with (refine wpList_value rfl (exec_eqS rfl rfl rfl (b := false) E7.out) ?_)
  have E8 : Hid _ := (HK.out 8 _ rfl)
  go_upto_region 15 with (refine wpList_value rfl (exec_eqS rfl rfl rfl (b := false) E8.out) ?_)
  have E9 : Hid _ := (HK.out 9 _ rfl)
  go_upto_region 17 with (refine wpList_value rfl (exec_eqS rfl rfl rfl (b := false) E9.out) ?_)
  have E10 : Hid _ := (HK.out 10 _ rfl)
  go_upto_region 18 with (refine wpList_value rfl (exec_eqS rfl rfl rfl (b := false) E10.out) ?_)
  have E11 : Hid _ := (HK.out 11 _ rfl)
  go_wp2_with (refine wpList_value rfl (exec_eqS rfl rfl rfl (b := true) E11.out) ?_)
  rw [← hw1]
  clear hw1
  have y0 := ck_at F.out.1 0
  have y1 := ck_at F.out.1 1
  have y2 := ck_at F.out.1 2
  have y3 := ck_at F.out.1 3
  simp only [List.getElem?_cons_zero, List.getElem?_cons_succ] at y0 y1 y2 y3
  refine bodyPost_ret (v := .tuple #[.agg #[.int .i64 4, .int .i64 0, .int .i64 0, .string ⟨#[]⟩], .bool true]) (by simp [results, Tryd.results36, go_sem, y0, y1, y2, y3]) rfl ?_
  exact ⟨rfl, F.out.2⟩
set_option maxHeartbeats 4000000 in
theorem tRl_12 (k : ByteArray) (w : World) (hk : KF k 12) : Calls Tryd.prog 36 #[.string k] w fun e w' => e = .returned (.tuple #[.agg #[.int .i64 5, .int .i64 1, .int .i64 65535, .string ⟨#[49]⟩], .bool true]) ∧ Below w.heap.size w w' := by
  have HK : Hid _ := hk
  clear hk
  have b : Below w.heap.size w (w.alloc (.cells #[.int .i64 5, .int .i64 1, .int .i64 65535, .string ⟨#[49]⟩] 65)) := (Below.refl _ _).alloc (Nat.le_refl _) _
  have B := Blk.new' w 65 [.int .i64 5, .int .i64 1, .int .i64 65535, .string ⟨#[49]⟩]
  obtain ⟨w1, hw1⟩ : ∃ w1, w1 = w.alloc (.cells #[.int .i64 5, .int .i64 1, .int .i64 65535, .string ⟨#[49]⟩] 65) := ⟨_, rfl⟩
  rw [← hw1] at b B
  have F : Hid _ := And.intro B b
  clear B b
  go_enter Tryd.func36, Tryd.ntmps36
  go_upto_region 2 with fail
  have E0 : Hid _ := (HK.out 0 _ rfl)
  go_upto_region 3 with (refine wpList_value rfl (exec_eqS rfl rfl rfl (b := false) E0.out) ?_)
  have E1 : Hid _ := (HK.out 1 _ rfl)
  go_upto_region 5 with (refine wpList_value rfl (exec_eqS rfl rfl rfl (b := false) E1.out) ?_)
  have E2 : Hid _ := (HK.out 2 _ rfl)
  go_upto_region 7 with (refine wpList_value rfl (exec_eqS rfl rfl rfl (b := false) E2.out) ?_)
  have E3 : Hid _ := (HK.out 3 _ rfl)
  go_upto_region 9 with (refine wpList_value rfl (exec_eqS rfl rfl rfl (b := false) E3.out) ?_)
  have E4 : Hid _ := (HK.out 4 _ rfl)
  go_upto_region 10 with (refine wpList_value rfl (exec_eqS rfl rfl rfl (b := false) E4.out) ?_)
  have E5 : Hid _ := (HK.out 5 _ rfl)
  go_upto_region 11 with (refine wpList_value rfl (exec_eqS rfl rfl rfl (b := false) E5.out) ?_)
  have E6 : Hid _ := (HK.out 6 _ rfl)
  go_upto_region 13 with (refine wpList_value rfl (exec_eqS rfl rfl rfl (b := false) E6.out) ?_)
  have E7 : Hid _ := (HK.out 7 _ rfl)
  go_upto_region 14 with (refine wpList_value rfl (exec_eqS rfl rfl rfl (b := false) E7.out) ?_)
  have E8 : Hid _ := (HK.out 8 _ rfl)
  go_upto_region 15 with (refine wpList_value rfl (exec_eqS rfl rfl rfl (b := false) E8.out) ?_)
  have E9 : Hid _ := (HK.out 9 _ rfl)
  go_upto_region 17 with (refine wpList_value rfl (exec_eqS rfl rfl rfl (b := false) E9.out) ?_)
  have E10 : Hid _ := (HK.out 10 _ rfl)
  go_upto_region 18 with (refine wpList_value rfl (exec_eqS rfl rfl rfl (b := false) E10.out) ?_)
  have E11 : Hid _ := (HK.out 11 _ rfl)
  go_upto_region 20 with (refine wpList_value rfl (exec_eqS rfl rfl rfl (b := false) E11.out) ?_)
  have E12 : Hid _ := (HK.out 12 _ rfl)
  go_wp2_with (refine wpList_value rfl (exec_eqS rfl rfl rfl (b := true) E12.out) ?_)
  rw [← hw1]
  clear hw1
  have y0 := ck_at F.out.1 0
  have y1 := ck_at F.out.1 1
  have y2 := ck_at F.out.1 2
  have y3 := ck_at F.out.1 3
  simp only [List.getElem?_cons_zero, List.getElem?_cons_succ] at y0 y1 y2 y3
  refine bodyPost_ret (v := .tuple #[.agg #[.int .i64 5, .int .i64 1, .int .i64 65535, .string ⟨#[49]⟩], .bool true]) (by simp [results, Tryd.results36, go_sem, y0, y1, y2, y3]) rfl ?_
  exact ⟨rfl, F.out.2⟩
set_option maxHeartbeats 4000000 in
theorem tRl_13 (k : ByteArray) (w : World) (hk : KF k 13) : Calls Tryd.prog 36 #[.string k] w fun e w' => e = .returned (.tuple #[.agg #[.int .i64 5, .int .i64 1, .int .i64 65535, .string ⟨#[49]⟩], .bool true]) ∧ Below w.heap.size w w' := by
  have HK : Hid _ := hk
  clear hk
  have b : Below w.heap.size w (w.alloc (.cells #[.int .i64 5, .int .i64 1, .int .i64 65535, .string ⟨#[49]⟩] 65)) := (Below.refl _ _).alloc (Nat.le_refl _) _
  have B := Blk.new' w 65 [.int .i64 5, .int .i64 1, .int .i64 65535, .string ⟨#[49]⟩]
  obtain ⟨w1, hw1⟩ : ∃ w1, w1 = w.alloc (.cells #[.int .i64 5, .int .i64 1, .int .i64 65535, .string ⟨#[49]⟩] 65) := ⟨_, rfl⟩
  rw [← hw1] at b B
  have F : Hid _ := And.intro B b
  clear B b
  go_enter Tryd.func36, Tryd.ntmps36
  go_upto_region 2 with fail
  have E0 : Hid _ := (HK.out 0 _ rfl)
  go_upto_region 3 with (refine wpList_value rfl (exec_eqS rfl rfl rfl (b := false) E0.out) ?_)
  have E1 : Hid _ := (HK.out 1 _ rfl)
  go_upto_region 5 with (refine wpList_value rfl (exec_eqS rfl rfl rfl (b := false) E1.out) ?_)
  have E2 : Hid _ := (HK.out 2 _ rfl)
  go_upto_region 7 with (refine wpList_value rfl (exec_eqS rfl rfl rfl (b := false) E2.out) ?_)
  have E3 : Hid _ := (HK.out 3 _ rfl)
  go_upto_region 9 with (refine wpList_value rfl (exec_eqS rfl rfl rfl (b := false) E3.out) ?_)
  have E4 : Hid _ := (HK.out 4 _ rfl)
  go_upto_region 10 with (refine wpList_value rfl (exec_eqS rfl rfl rfl (b := false) E4.out) ?_)
  have E5 : Hid _ := (HK.out 5 _ rfl)
  go_upto_region 11 with (refine wpList_value rfl (exec_eqS rfl rfl rfl (b := false) E5.out) ?_)
  have E6 : Hid _ := (HK.out 6 _ rfl)
  go_upto_region 13 with (refine wpList_value rfl (exec_eqS rfl rfl rfl (b := false) E6.out) ?_)
  have E7 : Hid _ := (HK.out 7 _ rfl)
  go_upto_region 14 with (refine wpList_value rfl (exec_eqS rfl rfl rfl (b := false) E7.out) ?_)
  have E8 : Hid _ := (HK.out 8 _ rfl)
  go_upto_region 15 with (refine wpList_value rfl (exec_eqS rfl rfl rfl (b := false) E8.out) ?_)
  have E9 : Hid _ := (HK.out 9 _ rfl)
  go_upto_region 17 with (refine wpList_value rfl (exec_eqS rfl rfl rfl (b := false) E9.out) ?_)
  have E10 : Hid _ := (HK.out 10 _ rfl)
  go_upto_region 18 with (refine wpList_value rfl (exec_eqS rfl rfl rfl (b := false) E10.out) ?_)
  have E11 : Hid _ := (HK.out 11 _ rfl)
  go_upto_region 20 with (refine wpList_value rfl (exec_eqS rfl rfl rfl (b := false) E11.out) ?_)
  have E12 : Hid _ := (HK.out 12 _ rfl)
  go_upto_region 21 with (refine wpList_value rfl (exec_eqS rfl rfl rfl (b := false) E12.out) ?_)
  have E13 : Hid _ := (HK.out 13 _ rfl)
  go_wp2_with (refine wpList_value rfl (exec_eqS rfl rfl rfl (b := true) E13.out) ?_)
  rw [← hw1]
  clear hw1
  have y0 := ck_at F.out.1 0
  have y1 := ck_at F.out.1 1
  have y2 := ck_at F.out.1 2
  have y3 := ck_at F.out.1 3
  simp only [List.getElem?_cons_zero, List.getElem?_cons_succ] at y0 y1 y2 y3
  refine bodyPost_ret (v := .tuple #[.agg #[.int .i64 5, .int .i64 1, .int .i64 65535, .string ⟨#[49]⟩], .bool true]) (by simp [results, Tryd.results36, go_sem, y0, y1, y2, y3]) rfl ?_
  exact ⟨rfl, F.out.2⟩
set_option maxHeartbeats 4000000 in
theorem tRl_14 (k : ByteArray) (w : World) (hk : KF k 14) : Calls Tryd.prog 36 #[.string k] w fun e w' => e = .returned (.tuple #[.agg #[.int .i64 5, .int .i64 0, .int .i64 2, .string ⟨#[48]⟩], .bool true]) ∧ Below w.heap.size w w' := by
  have HK : Hid _ := hk
  clear hk
  have b : Below w.heap.size w (w.alloc (.cells #[.int .i64 5, .int .i64 0, .int .i64 2, .string ⟨#[48]⟩] 65)) := (Below.refl _ _).alloc (Nat.le_refl _) _
  have B := Blk.new' w 65 [.int .i64 5, .int .i64 0, .int .i64 2, .string ⟨#[48]⟩]
  obtain ⟨w1, hw1⟩ : ∃ w1, w1 = w.alloc (.cells #[.int .i64 5, .int .i64 0, .int .i64 2, .string ⟨#[48]⟩] 65) := ⟨_, rfl⟩
  rw [← hw1] at b B
  have F : Hid _ := And.intro B b
  clear B b
  go_enter Tryd.func36, Tryd.ntmps36
  go_upto_region 2 with fail
  have E0 : Hid _ := (HK.out 0 _ rfl)
  go_upto_region 3 with (refine wpList_value rfl (exec_eqS rfl rfl rfl (b := false) E0.out) ?_)
  have E1 : Hid _ := (HK.out 1 _ rfl)
  go_upto_region 5 with (refine wpList_value rfl (exec_eqS rfl rfl rfl (b := false) E1.out) ?_)
  have E2 : Hid _ := (HK.out 2 _ rfl)
  go_upto_region 7 with (refine wpList_value rfl (exec_eqS rfl rfl rfl (b := false) E2.out) ?_)
  have E3 : Hid _ := (HK.out 3 _ rfl)
  go_upto_region 9 with (refine wpList_value rfl (exec_eqS rfl rfl rfl (b := false) E3.out) ?_)
  have E4 : Hid _ := (HK.out 4 _ rfl)
  go_upto_region 10 with (refine wpList_value rfl (exec_eqS rfl rfl rfl (b := false) E4.out) ?_)
  have E5 : Hid _ := (HK.out 5 _ rfl)
  go_upto_region 11 with (refine wpList_value rfl (exec_eqS rfl rfl rfl (b := false) E5.out) ?_)
  have E6 : Hid _ := (HK.out 6 _ rfl)
  go_upto_region 13 with (refine wpList_value rfl (exec_eqS rfl rfl rfl (b := false) E6.out) ?_)
  have E7 : Hid _ := (HK.out 7 _ rfl)
  go_upto_region 14 with (refine wpList_value rfl (exec_eqS rfl rfl rfl (b := false) E7.out) ?_)
  have E8 : Hid _ := (HK.out 8 _ rfl)
  go_upto_region 15 with (refine wpList_value rfl (exec_eqS rfl rfl rfl (b := false) E8.out) ?_)
  have E9 : Hid _ := (HK.out 9 _ rfl)
  go_upto_region 17 with (refine wpList_value rfl (exec_eqS rfl rfl rfl (b := false) E9.out) ?_)
  have E10 : Hid _ := (HK.out 10 _ rfl)
  go_upto_region 18 with (refine wpList_value rfl (exec_eqS rfl rfl rfl (b := false) E10.out) ?_)
  have E11 : Hid _ := (HK.out 11 _ rfl)
  go_upto_region 20 with (refine wpList_value rfl (exec_eqS rfl rfl rfl (b := false) E11.out) ?_)
  have E12 : Hid _ := (HK.out 12 _ rfl)
  go_upto_region 21 with (refine wpList_value rfl (exec_eqS rfl rfl rfl (b := false) E12.out) ?_)
  have E13 : Hid _ := (HK.out 13 _ rfl)
  go_upto_region 23 with (refine wpList_value rfl (exec_eqS rfl rfl rfl (b := false) E13.out) ?_)
  have E14 : Hid _ := (HK.out 14 _ rfl)
  go_wp2_with (refine wpList_value rfl (exec_eqS rfl rfl rfl (b := true) E14.out) ?_)
  rw [← hw1]
  clear hw1
  have y0 := ck_at F.out.1 0
  have y1 := ck_at F.out.1 1
  have y2 := ck_at F.out.1 2
  have y3 := ck_at F.out.1 3
  simp only [List.getElem?_cons_zero, List.getElem?_cons_succ] at y0 y1 y2 y3
  refine bodyPost_ret (v := .tuple #[.agg #[.int .i64 5, .int .i64 0, .int .i64 2, .string ⟨#[48]⟩], .bool true]) (by simp [results, Tryd.results36, go_sem, y0, y1, y2, y3]) rfl ?_
  exact ⟨rfl, F.out.2⟩
set_option maxHeartbeats 4000000 in
theorem tRl_15 (k : ByteArray) (w : World) (hk : KF k 15) : Calls Tryd.prog 36 #[.string k] w fun e w' => e = .returned (.tuple #[.agg #[.int .i64 5, .int .i64 0, .int .i64 3600, .string ⟨#[]⟩], .bool true]) ∧ Below w.heap.size w w' := by
  have HK : Hid _ := hk
  clear hk
  have b : Below w.heap.size w (w.alloc (.cells #[.int .i64 5, .int .i64 0, .int .i64 3600, .string ⟨#[]⟩] 65)) := (Below.refl _ _).alloc (Nat.le_refl _) _
  have B := Blk.new' w 65 [.int .i64 5, .int .i64 0, .int .i64 3600, .string ⟨#[]⟩]
  obtain ⟨w1, hw1⟩ : ∃ w1, w1 = w.alloc (.cells #[.int .i64 5, .int .i64 0, .int .i64 3600, .string ⟨#[]⟩] 65) := ⟨_, rfl⟩
  rw [← hw1] at b B
  have F : Hid _ := And.intro B b
  clear B b
  go_enter Tryd.func36, Tryd.ntmps36
  go_upto_region 2 with fail
  have E0 : Hid _ := (HK.out 0 _ rfl)
  go_upto_region 3 with (refine wpList_value rfl (exec_eqS rfl rfl rfl (b := false) E0.out) ?_)
  have E1 : Hid _ := (HK.out 1 _ rfl)
  go_upto_region 5 with (refine wpList_value rfl (exec_eqS rfl rfl rfl (b := false) E1.out) ?_)
  have E2 : Hid _ := (HK.out 2 _ rfl)
  go_upto_region 7 with (refine wpList_value rfl (exec_eqS rfl rfl rfl (b := false) E2.out) ?_)
  have E3 : Hid _ := (HK.out 3 _ rfl)
  go_upto_region 9 with (refine wpList_value rfl (exec_eqS rfl rfl rfl (b := false) E3.out) ?_)
  have E4 : Hid _ := (HK.out 4 _ rfl)
  go_upto_region 10 with (refine wpList_value rfl (exec_eqS rfl rfl rfl (b := false) E4.out) ?_)
  have E5 : Hid _ := (HK.out 5 _ rfl)
  go_upto_region 11 with (refine wpList_value rfl (exec_eqS rfl rfl rfl (b := false) E5.out) ?_)
  have E6 : Hid _ := (HK.out 6 _ rfl)
  go_upto_region 13 with (refine wpList_value rfl (exec_eqS rfl rfl rfl (b := false) E6.out) ?_)
  have E7 : Hid _ := (HK.out 7 _ rfl)
  go_upto_region 14 with (refine wpList_value rfl (exec_eqS rfl rfl rfl (b := false) E7.out) ?_)
  have E8 : Hid _ := (HK.out 8 _ rfl)
  go_upto_region 15 with (refine wpList_value rfl (exec_eqS rfl rfl rfl (b := false) E8.out) ?_)
  have E9 : Hid _ := (HK.out 9 _ rfl)
  go_upto_region 17 with (refine wpList_value rfl (exec_eqS rfl rfl rfl (b := false) E9.out) ?_)
  have E10 : Hid _ := (HK.out 10 _ rfl)
  go_upto_region 18 with (refine wpList_value rfl (exec_eqS rfl rfl rfl (b := false) E10.out) ?_)
  have E11 : Hid _ := (HK.out 11 _ rfl)
  go_upto_region 20 with (refine wpList_value rfl (exec_eqS rfl rfl rfl (b := false) E11.out) ?_)
  have E12 : Hid _ := (HK.out 12 _ rfl)
  go_upto_region 21 with (refine wpList_value rfl (exec_eqS rfl rfl rfl (b := false) E12.out) ?_)
  have E13 : Hid _ := (HK.out 13 _ rfl)
  go_upto_region 23 with (refine wpList_value rfl (exec_eqS rfl rfl rfl (b := false) E13.out) ?_)
  have E14 : Hid _ := (HK.out 14 _ rfl)
  go_upto_region 25 with (refine wpList_value rfl (exec_eqS rfl rfl rfl (b := false) E14.out) ?_)
  have E15 : Hid _ := (HK.out 15 _ rfl)
  go_wp2_with (refine wpList_value rfl (exec_eqS rfl rfl rfl (b := true) E15.out) ?_)
  rw [← hw1]
  clear hw1
  have y0 := ck_at F.out.1 0
  have y1 := ck_at F.out.1 1
  have y2 := ck_at F.out.1 2
  have y3 := ck_at F.out.1 3
  simp only [List.getElem?_cons_zero, List.getElem?_cons_succ] at y0 y1 y2 y3
  refine bodyPost_ret (v := .tuple #[.agg #[.int .i64 5, .int .i64 0, .int .i64 3600, .string ⟨#[]⟩], .bool true]) (by simp [results, Tryd.results36, go_sem, y0, y1, y2, y3]) rfl ?_
  exact ⟨rfl, F.out.2⟩
set_option maxHeartbeats 4000000 in
theorem tRl_16 (k : ByteArray) (w : World) (hk : KF k 16) : Calls Tryd.prog 36 #[.string k] w fun e w' => e = .returned (.tuple #[.agg #[.int .i64 5, .int .i64 0, .int .i64 3600, .string ⟨#[48]⟩], .bool true]) ∧ Below w.heap.size w w' := by
  have HK : Hid _ := hk
  clear hk
  have b : Below w.heap.size w (w.alloc (.cells #[.int .i64 5, .int .i64 0, .int .i64 3600, .string ⟨#[48]⟩] 65)) := (Below.refl _ _).alloc (Nat.le_refl _) _
  have B := Blk.new' w 65 [.int .i64 5, .int .i64 0, .int .i64 3600, .string ⟨#[48]⟩]
  obtain ⟨w1, hw1⟩ : ∃ w1, w1 = w.alloc (.cells #[.int .i64 5, .int .i64 0, .int .i64 3600, .string ⟨#[48]⟩] 65) := ⟨_, rfl⟩
  rw [← hw1] at b B
  have F : Hid _ := And.intro B b
  clear B b
  go_enter Tryd.func36, Tryd.ntmps36
  go_upto_region 2 with fail
  have E0 : Hid _ := (HK.out 0 _ rfl)
  go_upto_region 3 with (refine wpList_value rfl (exec_eqS rfl rfl rfl (b := false) E0.out) ?_)
  have E1 : Hid _ := (HK.out 1 _ rfl)
  go_upto_region 5 with (refine wpList_value rfl (exec_eqS rfl rfl rfl (b := false) E1.out) ?_)
  have E2 : Hid _ := (HK.out 2 _ rfl)
  go_upto_region 7 with (refine wpList_value rfl (exec_eqS rfl rfl rfl (b := false) E2.out) ?_)
  have E3 : Hid _ := (HK.out 3 _ rfl)
  go_upto_region 9 with (refine wpList_value rfl (exec_eqS rfl rfl rfl (b := false) E3.out) ?_)
  have E4 : Hid _ := (HK.out 4 _ rfl)
  go_upto_region 10 with (refine wpList_value rfl (exec_eqS rfl rfl rfl (b := false) E4.out) ?_)
  have E5 : Hid _ := (HK.out 5 _ rfl)
  go_upto_region 11 with (refine wpList_value rfl (exec_eqS rfl rfl rfl (b := false) E5.out) ?_)
  have E6 : Hid _ := (HK.out 6 _ rfl)
  go_upto_region 13 with (refine wpList_value rfl (exec_eqS rfl rfl rfl (b := false) E6.out) ?_)
  have E7 : Hid _ := (HK.out 7 _ rfl)
  go_upto_region 14 with (refine wpList_value rfl (exec_eqS rfl rfl rfl (b := false) E7.out) ?_)
  have E8 : Hid _ := (HK.out 8 _ rfl)
  go_upto_region 15 with (refine wpList_value rfl (exec_eqS rfl rfl rfl (b := false) E8.out) ?_)
  have E9 : Hid _ := (HK.out 9 _ rfl)
  go_upto_region 17 with (refine wpList_value rfl (exec_eqS rfl rfl rfl (b := false) E9.out) ?_)
  have E10 : Hid _ := (HK.out 10 _ rfl)
  go_upto_region 18 with (refine wpList_value rfl (exec_eqS rfl rfl rfl (b := false) E10.out) ?_)
  have E11 : Hid _ := (HK.out 11 _ rfl)
  go_upto_region 20 with (refine wpList_value rfl (exec_eqS rfl rfl rfl (b := false) E11.out) ?_)
  have E12 : Hid _ := (HK.out 12 _ rfl)
  go_upto_region 21 with (refine wpList_value rfl (exec_eqS rfl rfl rfl (b := false) E12.out) ?_)
  have E13 : Hid _ := (HK.out 13 _ rfl)
  go_upto_region 23 with (refine wpList_value rfl (exec_eqS rfl rfl rfl (b := false) E13.out) ?_)
  have E14 : Hid _ := (HK.out 14 _ rfl)
  go_upto_region 25 with (refine wpList_value rfl (exec_eqS rfl rfl rfl (b := false) E14.out) ?_)
  have E15 : Hid _ := (HK.out 15 _ rfl)
  go_upto_region 27 with (refine wpList_value rfl (exec_eqS rfl rfl rfl (b := false) E15.out) ?_)
  have E16 : Hid _ := (HK.out 16 _ rfl)
  go_wp2_with (refine wpList_value rfl (exec_eqS rfl rfl rfl (b := true) E16.out) ?_)
  rw [← hw1]
  clear hw1
  have y0 := ck_at F.out.1 0
  have y1 := ck_at F.out.1 1
  have y2 := ck_at F.out.1 2
  have y3 := ck_at F.out.1 3
  simp only [List.getElem?_cons_zero, List.getElem?_cons_succ] at y0 y1 y2 y3
  refine bodyPost_ret (v := .tuple #[.agg #[.int .i64 5, .int .i64 0, .int .i64 3600, .string ⟨#[48]⟩], .bool true]) (by simp [results, Tryd.results36, go_sem, y0, y1, y2, y3]) rfl ?_
  exact ⟨rfl, F.out.2⟩
set_option maxHeartbeats 4000000 in
theorem tRl_17 (k : ByteArray) (w : World) (hk : KF k 17) : Calls Tryd.prog 36 #[.string k] w fun e w' => e = .returned (.tuple #[.agg #[.int .i64 4, .int .i64 0, .int .i64 0, .string ⟨#[89, 101, 115]⟩], .bool true]) ∧ Below w.heap.size w w' := by
  have HK : Hid _ := hk
  clear hk
  have b : Below w.heap.size w (w.alloc (.cells #[.int .i64 4, .int .i64 0, .int .i64 0, .string ⟨#[89, 101, 115]⟩] 65)) := (Below.refl _ _).alloc (Nat.le_refl _) _
  have B := Blk.new' w 65 [.int .i64 4, .int .i64 0, .int .i64 0, .string ⟨#[89, 101, 115]⟩]
  obtain ⟨w1, hw1⟩ : ∃ w1, w1 = w.alloc (.cells #[.int .i64 4, .int .i64 0, .int .i64 0, .string ⟨#[89, 101, 115]⟩] 65) := ⟨_, rfl⟩
  rw [← hw1] at b B
  have F : Hid _ := And.intro B b
  clear B b
  go_enter Tryd.func36, Tryd.ntmps36
  go_upto_region 2 with fail
  have E0 : Hid _ := (HK.out 0 _ rfl)
  go_upto_region 3 with (refine wpList_value rfl (exec_eqS rfl rfl rfl (b := false) E0.out) ?_)
  have E1 : Hid _ := (HK.out 1 _ rfl)
  go_upto_region 5 with (refine wpList_value rfl (exec_eqS rfl rfl rfl (b := false) E1.out) ?_)
  have E2 : Hid _ := (HK.out 2 _ rfl)
  go_upto_region 7 with (refine wpList_value rfl (exec_eqS rfl rfl rfl (b := false) E2.out) ?_)
  have E3 : Hid _ := (HK.out 3 _ rfl)
  go_upto_region 9 with (refine wpList_value rfl (exec_eqS rfl rfl rfl (b := false) E3.out) ?_)
  have E4 : Hid _ := (HK.out 4 _ rfl)
  go_upto_region 10 with (refine wpList_value rfl (exec_eqS rfl rfl rfl (b := false) E4.out) ?_)
  have E5 : Hid _ := (HK.out 5 _ rfl)
  go_upto_region 11 with (refine wpList_value rfl (exec_eqS rfl rfl rfl (b := false) E5.out) ?_)
  have E6 : Hid _ := (HK.out 6 _ rfl)
  go_upto_region 13 with (refine wpList_value rfl (exec_eqS rfl rfl rfl (b := false) E6.out) ?_)
  have E7 : Hid _ := (HK.out 7 _ rfl)
  go_upto_region 14 with (refine wpList_value rfl (exec_eqS rfl rfl rfl (b := false) E7.out) ?_)
  have E8 : Hid _ := (HK.out 8 _ rfl)
  go_upto_region 15 with (refine wpList_value rfl (exec_eqS rfl rfl rfl (b := false) E8.out) ?_)
  have E9 : Hid _ := (HK.out 9 _ rfl)
  go_upto_region 17 with (refine wpList_value rfl (exec_eqS rfl rfl rfl (b := false) E9.out) ?_)
  have E10 : Hid _ := (HK.out 10 _ rfl)
  go_upto_region 18 with (refine wpList_value rfl (exec_eqS rfl rfl rfl (b := false) E10.out) ?_)
  have E11 : Hid _ := (HK.out 11 _ rfl)
  go_upto_region 20 with (refine wpList_value rfl (exec_eqS rfl rfl rfl (b := false) E11.out) ?_)
  have E12 : Hid _ := (HK.out 12 _ rfl)
  go_upto_region 21 with (refine wpList_value rfl (exec_eqS rfl rfl rfl (b := false) E12.out) ?_)
  have E13 : Hid _ := (HK.out 13 _ rfl)
  go_upto_region 23 with (refine wpList_value rfl (exec_eqS rfl rfl rfl (b := false) E13.out) ?_)
  have E14 : Hid _ := (HK.out 14 _ rfl)
  go_upto_region 25 with (refine wpList_value rfl (exec_eqS rfl rfl rfl (b := false) E14.out) ?_)
  have E15 : Hid _ := (HK.out 15 _ rfl)
  go_upto_region 27 with (refine wpList_value rfl (exec_eqS rfl rfl rfl (b := false) E15.out) ?_)
  have E16 : Hid _ := (HK.out 16 _ rfl)
  go_upto_region 29 with (refine wpList_value rfl (exec_eqS rfl rfl rfl (b := false) E16.out) ?_)
  have E17 : Hid _ := (HK.out 17 _ rfl)
  go_wp2_with (refine wpList_value rfl (exec_eqS rfl rfl rfl (b := true) E17.out) ?_)
  rw [← hw1]
  clear hw1
  have y0 := ck_at F.out.1 0
  have y1 := ck_at F.out.1 1
  have y2 := ck_at F.out.1 2
  have y3 := ck_at F.out.1 3
  simp only [List.getElem?_cons_zero, List.getElem?_cons_succ] at y0 y1 y2 y3
  refine bodyPost_ret (v := .tuple #[.agg #[.int .i64 4, .int .i64 0, .int .i64 0, .string ⟨#[89, 101, 115]⟩], .bool true]) (by simp [results, Tryd.results36, go_sem, y0, y1, y2, y3]) rfl ?_
  exact ⟨rfl, F.out.2⟩
set_option maxHeartbeats 4000000 in
theorem tRl_18 (k : ByteArray) (w : World) (hk : KF k 18) : Calls Tryd.prog 36 #[.string k] w fun e w' => e = .returned (.tuple #[.agg #[.int .i64 4, .int .i64 0, .int .i64 0, .string ⟨#[89, 101, 115]⟩], .bool true]) ∧ Below w.heap.size w w' := by
  have HK : Hid _ := hk
  clear hk
  have b : Below w.heap.size w (w.alloc (.cells #[.int .i64 4, .int .i64 0, .int .i64 0, .string ⟨#[89, 101, 115]⟩] 65)) := (Below.refl _ _).alloc (Nat.le_refl _) _
  have B := Blk.new' w 65 [.int .i64 4, .int .i64 0, .int .i64 0, .string ⟨#[89, 101, 115]⟩]
  obtain ⟨w1, hw1⟩ : ∃ w1, w1 = w.alloc (.cells #[.int .i64 4, .int .i64 0, .int .i64 0, .string ⟨#[89, 101, 115]⟩] 65) := ⟨_, rfl⟩
  rw [← hw1] at b B
  have F : Hid _ := And.intro B b
  clear B b
  go_enter Tryd.func36, Tryd.ntmps36
  go_upto_region 2 with fail
  have E0 : Hid _ := (HK.out 0 _ rfl)
  go_upto_region 3 with (refine wpList_value rfl (exec_eqS rfl rfl rfl (b := false) E0.out) ?_)
  have E1 : Hid _ := (HK.out 1 _ rfl)
  go_upto_region 5 with (refine wpList_value rfl (exec_eqS rfl rfl rfl (b := false) E1.out) ?_)
  have E2 : Hid _ := (HK.out 2 _ rfl)
  go_upto_region 7 with (refine wpList_value rfl (exec_eqS rfl rfl rfl (b := false) E2.out) ?_)
  have E3 : Hid _ := (HK.out 3 _ rfl)
  go_upto_region 9 with (refine wpList_value rfl (exec_eqS rfl rfl rfl (b := false) E3.out) ?_)
  have E4 : Hid _ := (HK.out 4 _ rfl)
  go_upto_region 10 with (refine wpList_value rfl (exec_eqS rfl rfl rfl (b := false) E4.out) ?_)
  have E5 : Hid _ := (HK.out 5 _ rfl)
  go_upto_region 11 with (refine wpList_value rfl (exec_eqS rfl rfl rfl (b := false) E5.out) ?_)
  have E6 : Hid _ := (HK.out 6 _ rfl)
  go_upto_region 13 with (refine wpList_value rfl (exec_eqS rfl rfl rfl (b := false) E6.out) ?_)
  have E7 : Hid _ := (HK.out 7 _ rfl)
  go_upto_region 14 with (refine wpList_value rfl (exec_eqS rfl rfl rfl (b := false) E7.out) ?_)
  have E8 : Hid _ := (HK.out 8 _ rfl)
  go_upto_region 15 with (refine wpList_value rfl (exec_eqS rfl rfl rfl (b := false) E8.out) ?_)
  have E9 : Hid _ := (HK.out 9 _ rfl)
  go_upto_region 17 with (refine wpList_value rfl (exec_eqS rfl rfl rfl (b := false) E9.out) ?_)
  have E10 : Hid _ := (HK.out 10 _ rfl)
  go_upto_region 18 with (refine wpList_value rfl (exec_eqS rfl rfl rfl (b := false) E10.out) ?_)
  have E11 : Hid _ := (HK.out 11 _ rfl)
  go_upto_region 20 with (refine wpList_value rfl (exec_eqS rfl rfl rfl (b := false) E11.out) ?_)
  have E12 : Hid _ := (HK.out 12 _ rfl)
  go_upto_region 21 with (refine wpList_value rfl (exec_eqS rfl rfl rfl (b := false) E12.out) ?_)
  have E13 : Hid _ := (HK.out 13 _ rfl)
  go_upto_region 23 with (refine wpList_value rfl (exec_eqS rfl rfl rfl (b := false) E13.out) ?_)
  have E14 : Hid _ := (HK.out 14 _ rfl)
  go_upto_region 25 with (refine wpList_value rfl (exec_eqS rfl rfl rfl (b := false) E14.out) ?_)
  have E15 : Hid _ := (HK.out 15 _ rfl)
  go_upto_region 27 with (refine wpList_value rfl (exec_eqS rfl rfl rfl (b := false) E15.out) ?_)
  have E16 : Hid _ := (HK.out 16 _ rfl)
  go_upto_region 29 with (refine wpList_value rfl (exec_eqS rfl rfl rfl (b := false) E16.out) ?_)
  have E17 : Hid _ := (HK.out 17 _ rfl)
  go_upto_region 30 with (refine wpList_value rfl (exec_eqS rfl rfl rfl (b := false) E17.out) ?_)
  have E18 : Hid _ := (HK.out 18 _ rfl)
  go_wp2_with (refine wpList_value rfl (exec_eqS rfl rfl rfl (b := true) E18.out) ?_)
  rw [← hw1]
  clear hw1
  have y0 := ck_at F.out.1 0
  have y1 := ck_at F.out.1 1
  have y2 := ck_at F.out.1 2
  have y3 := ck_at F.out.1 3
  simp only [List.getElem?_cons_zero, List.getElem?_cons_succ] at y0 y1 y2 y3
  refine bodyPost_ret (v := .tuple #[.agg #[.int .i64 4, .int .i64 0, .int .i64 0, .string ⟨#[89, 101, 115]⟩], .bool true]) (by simp [results, Tryd.results36, go_sem, y0, y1, y2, y3]) rfl ?_
  exact ⟨rfl, F.out.2⟩
set_option maxHeartbeats 4000000 in
theorem tRl_19 (k : ByteArray) (w : World) (hk : KF k 19) : Calls Tryd.prog 36 #[.string k] w fun e w' => e = .returned (.tuple #[.agg #[.int .i64 4, .int .i64 0, .int .i64 0, .string ⟨#[78, 111]⟩], .bool true]) ∧ Below w.heap.size w w' := by
  have HK : Hid _ := hk
  clear hk
  have b : Below w.heap.size w (w.alloc (.cells #[.int .i64 4, .int .i64 0, .int .i64 0, .string ⟨#[78, 111]⟩] 65)) := (Below.refl _ _).alloc (Nat.le_refl _) _
  have B := Blk.new' w 65 [.int .i64 4, .int .i64 0, .int .i64 0, .string ⟨#[78, 111]⟩]
  obtain ⟨w1, hw1⟩ : ∃ w1, w1 = w.alloc (.cells #[.int .i64 4, .int .i64 0, .int .i64 0, .string ⟨#[78, 111]⟩] 65) := ⟨_, rfl⟩
  rw [← hw1] at b B
  have F : Hid _ := And.intro B b
  clear B b
  go_enter Tryd.func36, Tryd.ntmps36
  go_upto_region 2 with fail
  have E0 : Hid _ := (HK.out 0 _ rfl)
  go_upto_region 3 with (refine wpList_value rfl (exec_eqS rfl rfl rfl (b := false) E0.out) ?_)
  have E1 : Hid _ := (HK.out 1 _ rfl)
  go_upto_region 5 with (refine wpList_value rfl (exec_eqS rfl rfl rfl (b := false) E1.out) ?_)
  have E2 : Hid _ := (HK.out 2 _ rfl)
  go_upto_region 7 with (refine wpList_value rfl (exec_eqS rfl rfl rfl (b := false) E2.out) ?_)
  have E3 : Hid _ := (HK.out 3 _ rfl)
  go_upto_region 9 with (refine wpList_value rfl (exec_eqS rfl rfl rfl (b := false) E3.out) ?_)
  have E4 : Hid _ := (HK.out 4 _ rfl)
  go_upto_region 10 with (refine wpList_value rfl (exec_eqS rfl rfl rfl (b := false) E4.out) ?_)
  have E5 : Hid _ := (HK.out 5 _ rfl)
  go_upto_region 11 with (refine wpList_value rfl (exec_eqS rfl rfl rfl (b := false) E5.out) ?_)
  have E6 : Hid _ := (HK.out 6 _ rfl)
  go_upto_region 13 with (refine wpList_value rfl (exec_eqS rfl rfl rfl (b := false) E6.out) ?_)
  have E7 : Hid _ := (HK.out 7 _ rfl)
  go_upto_region 14 with (refine wpList_value rfl (exec_eqS rfl rfl rfl (b := false) E7.out) ?_)
  have E8 : Hid _ := (HK.out 8 _ rfl)
  go_upto_region 15 with (refine wpList_value rfl (exec_eqS rfl rfl rfl (b := false) E8.out) ?_)
  have E9 : Hid _ := (HK.out 9 _ rfl)
  go_upto_region 17 with (refine wpList_value rfl (exec_eqS rfl rfl rfl (b := false) E9.out) ?_)
  have E10 : Hid _ := (HK.out 10 _ rfl)
  go_upto_region 18 with (refine wpList_value rfl (exec_eqS rfl rfl rfl (b := false) E10.out) ?_)
  have E11 : Hid _ := (HK.out 11 _ rfl)
  go_upto_region 20 with (refine wpList_value rfl (exec_eqS rfl rfl rfl (b := false) E11.out) ?_)
  have E12 : Hid _ := (HK.out 12 _ rfl)
  go_upto_region 21 with (refine wpList_value rfl (exec_eqS rfl rfl rfl (b := false) E12.out) ?_)
  have E13 : Hid _ := (HK.out 13 _ rfl)
  go_upto_region 23 with (refine wpList_value rfl (exec_eqS rfl rfl rfl (b := false) E13.out) ?_)
  have E14 : Hid _ := (HK.out 14 _ rfl)
  go_upto_region 25 with (refine wpList_value rfl (exec_eqS rfl rfl rfl (b := false) E14.out) ?_)
  have E15 : Hid _ := (HK.out 15 _ rfl)
  go_upto_region 27 with (refine wpList_value rfl (exec_eqS rfl rfl rfl (b := false) E15.out) ?_)
  have E16 : Hid _ := (HK.out 16 _ rfl)
  go_upto_region 29 with (refine wpList_value rfl (exec_eqS rfl rfl rfl (b := false) E16.out) ?_)
  have E17 : Hid _ := (HK.out 17 _ rfl)
  go_upto_region 30 with (refine wpList_value rfl (exec_eqS rfl rfl rfl (b := false) E17.out) ?_)
  have E18 : Hid _ := (HK.out 18 _ rfl)
  go_upto_region 32 with (refine wpList_value rfl (exec_eqS rfl rfl rfl (b := false) E18.out) ?_)
  have E19 : Hid _ := (HK.out 19 _ rfl)
  go_wp2_with (refine wpList_value rfl (exec_eqS rfl rfl rfl (b := true) E19.out) ?_)
  rw [← hw1]
  clear hw1
  have y0 := ck_at F.out.1 0
  have y1 := ck_at F.out.1 1
  have y2 := ck_at F.out.1 2
  have y3 := ck_at F.out.1 3
  simp only [List.getElem?_cons_zero, List.getElem?_cons_succ] at y0 y1 y2 y3
  refine bodyPost_ret (v := .tuple #[.agg #[.int .i64 4, .int .i64 0, .int .i64 0, .string ⟨#[78, 111]⟩], .bool true]) (by simp [results, Tryd.results36, go_sem, y0, y1, y2, y3]) rfl ?_
  exact ⟨rfl, F.out.2⟩
set_option maxHeartbeats 4000000 in
theorem tRl_20 (k : ByteArray) (w : World) (hk : KF k 20) : Calls Tryd.prog 36 #[.string k] w fun e w' => e = .returned (.tuple #[.agg #[.int .i64 4, .int .i64 0, .int .i64 0, .string ⟨#[78, 111]⟩], .bool true]) ∧ Below w.heap.size w w' := by
  have HK : Hid _ := hk
  clear hk
  have b : Below w.heap.size w (w.alloc (.cells #[.int .i64 4, .int .i64 0, .int .i64 0, .string ⟨#[78, 111]⟩] 65)) := (Below.refl _ _).alloc (Nat.le_refl _) _
  have B := Blk.new' w 65 [.int .i64 4, .int .i64 0, .int .i64 0, .string ⟨#[78, 111]⟩]
  obtain ⟨w1, hw1⟩ : ∃ w1, w1 = w.alloc (.cells #[.int .i64 4, .int .i64 0, .int .i64 0, .string ⟨#[78, 111]⟩] 65) := ⟨_, rfl⟩
  rw [← hw1] at b B
  have F : Hid _ := And.intro B b
  clear B b
  go_enter Tryd.func36, Tryd.ntmps36
  go_upto_region 2 with fail
  have E0 : Hid _ := (HK.out 0 _ rfl)
  go_upto_region 3 with (refine wpList_value rfl (exec_eqS rfl rfl rfl (b := false) E0.out) ?_)
  have E1 : Hid _ := (HK.out 1 _ rfl)
  go_upto_region 5 with (refine wpList_value rfl (exec_eqS rfl rfl rfl (b := false) E1.out) ?_)
  have E2 : Hid _ := (HK.out 2 _ rfl)
  go_upto_region 7 with (refine wpList_value rfl (exec_eqS rfl rfl rfl (b := false) E2.out) ?_)
  have E3 : Hid _ := (HK.out 3 _ rfl)
  go_upto_region 9 with (refine wpList_value rfl (exec_eqS rfl rfl rfl (b := false) E3.out) ?_)
  have E4 : Hid _ := (HK.out 4 _ rfl)
  go_upto_region 10 with (refine wpList_value rfl (exec_eqS rfl rfl rfl (b := false) E4.out) ?_)
  have E5 : Hid _ := (HK.out 5 _ rfl)
  go_upto_region 11 with (refine wpList_value rfl (exec_eqS rfl rfl rfl (b := false) E5.out) ?_)
  have E6 : Hid _ := (HK.out 6 _ rfl)
  go_upto_region 13 with (refine wpList_value rfl (exec_eqS rfl rfl rfl (b := false) E6.out) ?_)
  have E7 : Hid _ := (HK.out 7 _ rfl)
  go_upto_region 14 with (refine wpList_value rfl (exec_eqS rfl rfl rfl (b := false) E7.out) ?_)
  have E8 : Hid _ := (HK.out 8 _ rfl)
  go_upto_region 15 with (refine wpList_value rfl (exec_eqS rfl rfl rfl (b := false) E8.out) ?_)
  have E9 : Hid _ := (HK.out 9 _ rfl)
  go_upto_region 17 with (refine wpList_value rfl (exec_eqS rfl rfl rfl (b := false) E9.out) ?_)
  have E10 : Hid _ := (HK.out 10 _ rfl)
  go_upto_region 18 with (refine wpList_value rfl (exec_eqS rfl rfl rfl (b := false) E10.out) ?_)
  have E11 : Hid _ := (HK.out 11 _ rfl)
  go_upto_region 20 with (refine wpList_value rfl (exec_eqS rfl rfl rfl (b := false) E11.out) ?_)
  have E12 : Hid _ := (HK.out 12 _ rfl)
  go_upto_region 21 with (refine wpList_value rfl (exec_eqS rfl rfl rfl (b := false) E12.out) ?_)
  have E13 : Hid _ := (HK.out 13 _ rfl)
  go_upto_region 23 with (refine wpList_value rfl (exec_eqS rfl rfl rfl (b := false) E13.out) ?_)
  have E14 : Hid _ := (HK.out 14 _ rfl)
  go_upto_region 25 with (refine wpList_value rfl (exec_eqS rfl rfl rfl (b := false) E14.out) ?_)
  have E15 : Hid _ := (HK.out 15 _ rfl)
  go_upto_region 27 with (refine wpList_value rfl (exec_eqS rfl rfl rfl (b := false) E15.out) ?_)
  have E16 : Hid _ := (HK.out 16 _ rfl)
  go_upto_region 29 with (refine wpList_value rfl (exec_eqS rfl rfl rfl (b := false) E16.out) ?_)
  have E17 : Hid _ := (HK.out 17 _ rfl)
  go_upto_region 30 with (refine wpList_value rfl (exec_eqS rfl rfl rfl (b := false) E17.out) ?_)
  have E18 : Hid _ := (HK.out 18 _ rfl)
  go_upto_region 32 with (refine wpList_value rfl (exec_eqS rfl rfl rfl (b := false) E18.out) ?_)
  have E19 : Hid _ := (HK.out 19 _ rfl)
  go_upto_region 33 with (refine wpList_value rfl (exec_eqS rfl rfl rfl (b := false) E19.out) ?_)
  have E20 : Hid _ := (HK.out 20 _ rfl)
  go_wp2_with (refine wpList_value rfl (exec_eqS rfl rfl rfl (b := true) E20.out) ?_)
  rw [← hw1]
  clear hw1
  have y0 := ck_at F.out.1 0
  have y1 := ck_at F.out.1 1
  have y2 := ck_at F.out.1 2
  have y3 := ck_at F.out.1 3
  simp only [List.getElem?_cons_zero, List.getElem?_cons_succ] at y0 y1 y2 y3
  refine bodyPost_ret (v := .tuple #[.agg #[.int .i64 4, .int .i64 0, .int .i64 0, .string ⟨#[78, 111]⟩], .bool true]) (by simp [results, Tryd.results36, go_sem, y0, y1, y2, y3]) rfl ?_
  exact ⟨rfl, F.out.2⟩
set_option maxHeartbeats 4000000 in
theorem tRl_21 (k : ByteArray) (w : World) (hk : KF k 21) : Calls Tryd.prog 36 #[.string k] w fun e w' => e = .returned (.tuple #[.agg #[.int .i64 0, .int .i64 0, .int .i64 0, .string ⟨#[]⟩], .bool false]) ∧ Below w.heap.size w w' := by
  have HK : Hid _ := hk
  clear hk
  have b : Below w.heap.size w (w.alloc (.cells #[.int .i64 0, .int .i64 0, .int .i64 0, .string ⟨#[]⟩] 65)) := (Below.refl _ _).alloc (Nat.le_refl _) _
  have B := Blk.new' w 65 [.int .i64 0, .int .i64 0, .int .i64 0, .string ⟨#[]⟩]
  obtain ⟨w1, hw1⟩ : ∃ w1, w1 = w.alloc (.cells #[.int .i64 0, .int .i64 0, .int .i64 0, .string ⟨#[]⟩] 65) := ⟨_, rfl⟩
  rw [← hw1] at b B
  have F : Hid _ := And.intro B b
  clear B b
  go_enter Tryd.func36, Tryd.ntmps36
  go_upto_region 2 with fail
  have E0 : Hid _ := (HK.out 0 _ rfl)
  go_upto_region 3 with (refine wpList_value rfl (exec_eqS rfl rfl rfl (b := false) E0.out) ?_)
  have E1 : Hid _ := (HK.out 1 _ rfl)
  go_upto_region 5 with (refine wpList_value rfl (exec_eqS rfl rfl rfl (b := false) E1.out) ?_)
  have E2 : Hid _ := (HK.out 2 _ rfl)
  go_upto_region 7 with (refine wpList_value rfl (exec_eqS rfl rfl rfl (b := false) E2.out) ?_)
  have E3 : Hid _ := (HK.out 3 _ rfl)
  go_upto_region 9 with (refine wpList_value rfl (exec_eqS rfl rfl rfl (b := false) E3.out) ?_)
  have E4 : Hid _ := (HK.out 4 _ rfl)
  go_upto_region 10 with (refine wpList_value rfl (exec_eqS rfl rfl rfl (b := false) E4.out) ?_)
  have E5 : Hid _ := (HK.out 5 _ rfl)
  go_upto_region 11 with (refine wpList_value rfl (exec_eqS rfl rfl rfl (b := false) E5.out) ?_)
  have E6 : Hid _ := (HK.out 6 _ rfl)
  go_upto_region 13 with (refine wpList_value rfl (exec_eqS rfl rfl rfl (b := false) E6.out) ?_)
  have E7 : Hid _ := (HK.out 7 _ rfl)
  go_upto_region 14 with (refine wpList_value rfl (exec_eqS rfl rfl rfl (b := false) E7.out) ?_)
  have E8 : Hid _ := (HK.out 8 _ rfl)
  go_upto_region 15 with (refine wpList_value rfl (exec_eqS rfl rfl rfl (b := false) E8.out) ?_)
  have E9 : Hid _ := (HK.out 9 _ rfl)
  go_upto_region 17 with (refine wpList_value rfl (exec_eqS rfl rfl rfl (b := false) E9.out) ?_)
  have E10 : Hid _ := (HK.out 10 _ rfl)
  go_upto_region 18 with (refine wpList_value rfl (exec_eqS rfl rfl rfl (b := false) E10.out) ?_)
  have E11 : Hid _ := (HK.out 11 _ rfl)
  go_upto_region 20 with (refine wpList_value rfl (exec_eqS rfl rfl rfl (b := false) E11.out) ?_)
  have E12 : Hid _ := (HK.out 12 _ rfl)
  go_upto_region 21 with (refine wpList_value rfl (exec_eqS rfl rfl rfl (b := false) E12.out) ?_)
  have E13 : Hid _ := (HK.out 13 _ rfl)
  go_upto_region 23 with (refine wpList_value rfl (exec_eqS rfl rfl rfl (b := false) E13.out) ?_)
  have E14 : Hid _ := (HK.out 14 _ rfl)
  go_upto_region 25 with (refine wpList_value rfl (exec_eqS rfl rfl rfl (b := false) E14.out) ?_)
  have E15 : Hid _ := (HK.out 15 _ rfl)
  go_upto_region 27 with (refine wpList_value rfl (exec_eqS rfl rfl rfl (b := false) E15.out) ?_)
  have E16 : Hid _ := (HK.out 16 _ rfl)
  go_upto_region 29 with (refine wpList_value rfl (exec_eqS rfl rfl rfl (b := false) E16.out) ?_)
  have E17 : Hid _ := (HK.out 17 _ rfl)
  go_upto_region 30 with (refine wpList_value rfl (exec_eqS rfl rfl rfl (b := false) E17.out) ?_)
  have E18 : Hid _ := (HK.out 18 _ rfl)
  go_upto_region 32 with (refine wpList_value rfl (exec_eqS rfl rfl rfl (b := false) E18.out) ?_)
  have E19 : Hid _ := (HK.out 19 _ rfl)
  go_upto_region 33 with (refine wpList_value rfl (exec_eqS rfl rfl rfl (b := false) E19.out) ?_)
  have E20 : Hid _ := (HK.out 20 _ rfl)
  go_wp2_with (refine wpList_value rfl (exec_eqS rfl rfl rfl (b := false) E20.out) ?_)
  rw [← hw1]
  clear hw1
  have y0 := ck_at F.out.1 0
  have y1 := ck_at F.out.1 1
  have y2 := ck_at F.out.1 2
  have y3 := ck_at F.out.1 3
  simp only [List.getElem?_cons_zero, List.getElem?_cons_succ] at y0 y1 y2 y3
  refine bodyPost_ret (v := .tuple #[.agg #[.int .i64 0, .int .i64 0, .int .i64 0, .string ⟨#[]⟩], .bool false]) (by simp [results, Tryd.results36, go_sem, y0, y1, y2, y3]) rfl ?_
  exact ⟨rfl, F.out.2⟩
theorem tRule_any (k : ByteArray) (w : World) : Calls Tryd.prog 36 #[.string k] w fun e w' => e = .returned (.tuple #[.agg (rlI (keyIx k)).c.toArray, .bool (decide (keyIx k < 21))]) ∧ Below w.heap.size w w' := by
  obtain ⟨hk, hl⟩ := kf_any k
  generalize keyIx k = j at *
  rcases nat22 hl with rfl | rfl | rfl | rfl | rfl | rfl | rfl | rfl | rfl | rfl | rfl | rfl | rfl | rfl | rfl | rfl | rfl | rfl | rfl | rfl | rfl | rfl
  · exact tRl_0 k w hk
  · exact tRl_1 k w hk
  · exact tRl_2 k w hk
  · exact tRl_3 k w hk
  · exact tRl_4 k w hk
  · exact tRl_5 k w hk
  · exact tRl_6 k w hk
  · exact tRl_7 k w hk
  · exact tRl_8 k w hk
  · exact tRl_9 k w hk
  · exact tRl_10 k w hk
  · exact tRl_11 k w hk
  · exact tRl_12 k w hk
  · exact tRl_13 k w hk
  · exact tRl_14 k w hk
  · exact tRl_15 k w hk
  · exact tRl_16 k w hk
  · exact tRl_17 k w hk
  · exact tRl_18 k w hk
  · exact tRl_19 k w hk
  · exact tRl_20 k w hk
  · exact tRl_21 k w hk
end Go.Proofs.YtligmiajlbjecaaDoor

/- text: takes. -/
namespace Go.Proofs.YtligmiajlbjecaaDoor
open Go.RowKit
set_option linter.unusedVariables false
set_option linter.unusedSimpArgs false
set_option maxRecDepth 8000

set_option maxHeartbeats 16000000 in
theorem tTakesR (f lo hi : Int) (an v : ByteArray) (w : World) (hf : f = 0 ∨ f = 1 ∨ f = 2 ∨ f = 3 ∨ f = 4 ∨ f = 5) : Calls Tryd.prog 37 #[.agg #[.int .i64 f, .int .i64 lo, .int .i64 hi, .string an], .string v] w fun e w' => e = .returned (.bool (takesM ⟨f, lo, hi, an⟩ v)) ∧ Below w.heap.size w w' := by
  rcases hf with rfl | rfl | rfl | rfl | rfl | rfl
  · have N1 := Blk.new' w 65 [.int .i64 0, .int .i64 lo, .int .i64 hi, .string an]
    have bn1 : Below w.heap.size w (w.alloc (.cells #[.int .i64 0, .int .i64 lo, .int .i64 hi, .string an] 65)) := (Below.refl _ _).alloc (Nat.le_refl _) _
    obtain ⟨w1, hw1⟩ : ∃ w1, w1 = w.alloc (.cells #[.int .i64 0, .int .i64 lo, .int .i64 hi, .string an] 65) := ⟨_, rfl⟩
    rw [← hw1] at N1 bn1
    have y0 := ck_at N1 0
    have y1 := ck_at N1 1
    have y2 := ck_at N1 2
    have y3 := ck_at N1 3
    simp only [List.getElem?_cons_zero, List.getElem?_cons_succ] at y0 y1 y2 y3
    have F : Hid _ := bn1
    clear bn1 N1
    go_enter Tryd.func37, Tryd.ntmps37
    go_upto_region 1 with fail
    rw [← hw1]
    clear hw1
    go_wp2
    go_ret
    exact ⟨by first | rfl | simp [takesM], F.out⟩
  · have N1 := Blk.new' w 65 [.int .i64 1, .int .i64 lo, .int .i64 hi, .string an]
    have bn1 : Below w.heap.size w (w.alloc (.cells #[.int .i64 1, .int .i64 lo, .int .i64 hi, .string an] 65)) := (Below.refl _ _).alloc (Nat.le_refl _) _
    obtain ⟨w1, hw1⟩ : ∃ w1, w1 = w.alloc (.cells #[.int .i64 1, .int .i64 lo, .int .i64 hi, .string an] 65) := ⟨_, rfl⟩
    rw [← hw1] at N1 bn1
    have y0 := ck_at N1 0
    have y1 := ck_at N1 1
    have y2 := ck_at N1 2
    have y3 := ck_at N1 3
    simp only [List.getElem?_cons_zero, List.getElem?_cons_succ] at y0 y1 y2 y3
    have F : Hid _ := bn1
    clear bn1 N1
    go_enter Tryd.func37, Tryd.ntmps37
    go_upto_region 1 with fail
    rw [← hw1]
    clear hw1
    go_wp2
    go_ret
    exact ⟨by first | rfl | simp [takesM], F.out⟩
  · have N1 := Blk.new' w 65 [.int .i64 2, .int .i64 lo, .int .i64 hi, .string an]
    have bn1 : Below w.heap.size w (w.alloc (.cells #[.int .i64 2, .int .i64 lo, .int .i64 hi, .string an] 65)) := (Below.refl _ _).alloc (Nat.le_refl _) _
    obtain ⟨w1, hw1⟩ : ∃ w1, w1 = w.alloc (.cells #[.int .i64 2, .int .i64 lo, .int .i64 hi, .string an] 65) := ⟨_, rfl⟩
    rw [← hw1] at N1 bn1
    have y0 := ck_at N1 0
    have y1 := ck_at N1 1
    have y2 := ck_at N1 2
    have y3 := ck_at N1 3
    simp only [List.getElem?_cons_zero, List.getElem?_cons_succ] at y0 y1 y2 y3
    have F : Hid _ := bn1
    clear bn1 N1
    go_enter Tryd.func37, Tryd.ntmps37
    go_upto_region 1 with fail
    rw [← hw1]
    clear hw1
    go_wp2
    go_ret
    exact ⟨by first | rfl | simp [takesM], F.out⟩
  · have N1 := Blk.new' w 65 [.int .i64 3, .int .i64 lo, .int .i64 hi, .string an]
    have bn1 : Below w.heap.size w (w.alloc (.cells #[.int .i64 3, .int .i64 lo, .int .i64 hi, .string an] 65)) := (Below.refl _ _).alloc (Nat.le_refl _) _
    obtain ⟨w1, hw1⟩ : ∃ w1, w1 = w.alloc (.cells #[.int .i64 3, .int .i64 lo, .int .i64 hi, .string an] 65) := ⟨_, rfl⟩
    rw [← hw1] at N1 bn1
    have y0 := ck_at N1 0
    have y1 := ck_at N1 1
    have y2 := ck_at N1 2
    have y3 := ck_at N1 3
    simp only [List.getElem?_cons_zero, List.getElem?_cons_succ] at y0 y1 y2 y3
    have F : Hid _ := bn1
    clear bn1 N1
    obtain ⟨b1, h1⟩ : ∃ b, (v.toList == normS.toList) = b := ⟨_, rfl⟩
    obtain ⟨b2, h2⟩ : ∃ b, (v.toList == discS.toList) = b := ⟨_, rfl⟩
    have H1 : Hid _ := h1
    have H2 : Hid _ := h2
    have HT : Hid (takesM ⟨3, lo, hi, an⟩ v = (b1 || b2)) := (by unfold takesM; simp only [h1, h2]; simp : takesM ⟨3, lo, hi, an⟩ v = (b1 || b2))
    clear h1 h2
    rw [HT.out]
    go_enter Tryd.func37, Tryd.ntmps37
    go_upto_region 1 with fail
    rw [← hw1]
    clear hw1
    cases b1
    · go_wp2_with (first | (refine wpList_value rfl (exec_eqS rfl rfl rfl H1.out) ?_) | (refine wpList_value rfl (exec_eqS rfl rfl rfl H2.out) ?_))
      go_ret
      exact ⟨by first | rfl | (have h := H2.out; simp only [ByteArray.toList_eq] at h ⊢; simpa using h), F.out⟩
    · go_wp2_with (first | (refine wpList_value rfl (exec_eqS rfl rfl rfl H1.out) ?_) | (refine wpList_value rfl (exec_eqS rfl rfl rfl H2.out) ?_))
      go_ret
      exact ⟨by first | rfl | simp, F.out⟩
  · have N1 := Blk.new' w 65 [.int .i64 4, .int .i64 lo, .int .i64 hi, .string an]
    have bn1 : Below w.heap.size w (w.alloc (.cells #[.int .i64 4, .int .i64 lo, .int .i64 hi, .string an] 65)) := (Below.refl _ _).alloc (Nat.le_refl _) _
    obtain ⟨w1, hw1⟩ : ∃ w1, w1 = w.alloc (.cells #[.int .i64 4, .int .i64 lo, .int .i64 hi, .string an] 65) := ⟨_, rfl⟩
    rw [← hw1] at N1 bn1
    have y0 := ck_at N1 0
    have y1 := ck_at N1 1
    have y2 := ck_at N1 2
    have y3 := ck_at N1 3
    simp only [List.getElem?_cons_zero, List.getElem?_cons_succ] at y0 y1 y2 y3
    have F : Hid _ := bn1
    clear bn1 N1
    obtain ⟨b1, h1⟩ : ∃ b, (v.toList == yesS.toList) = b := ⟨_, rfl⟩
    obtain ⟨b2, h2⟩ : ∃ b, (v.toList == noS.toList) = b := ⟨_, rfl⟩
    have H1 : Hid _ := h1
    have H2 : Hid _ := h2
    have HT : Hid (takesM ⟨4, lo, hi, an⟩ v = (b1 || b2)) := (by unfold takesM; simp only [h1, h2]; simp : takesM ⟨4, lo, hi, an⟩ v = (b1 || b2))
    clear h1 h2
    rw [HT.out]
    go_enter Tryd.func37, Tryd.ntmps37
    go_upto_region 1 with fail
    rw [← hw1]
    clear hw1
    cases b1
    · go_wp2_with (first | (refine wpList_value rfl (exec_eqS rfl rfl rfl H1.out) ?_) | (refine wpList_value rfl (exec_eqS rfl rfl rfl H2.out) ?_))
      go_ret
      exact ⟨by first | rfl | (have h := H2.out; simp only [ByteArray.toList_eq] at h ⊢; simpa using h), F.out⟩
    · go_wp2_with (first | (refine wpList_value rfl (exec_eqS rfl rfl rfl H1.out) ?_) | (refine wpList_value rfl (exec_eqS rfl rfl rfl H2.out) ?_))
      go_ret
      exact ⟨by first | rfl | simp, F.out⟩
  · have N1 := Blk.new' w 65 [.int .i64 5, .int .i64 lo, .int .i64 hi, .string an]
    have bn1 : Below w.heap.size w (w.alloc (.cells #[.int .i64 5, .int .i64 lo, .int .i64 hi, .string an] 65)) := (Below.refl _ _).alloc (Nat.le_refl _) _
    obtain ⟨w1, hw1⟩ : ∃ w1, w1 = w.alloc (.cells #[.int .i64 5, .int .i64 lo, .int .i64 hi, .string an] 65) := ⟨_, rfl⟩
    rw [← hw1] at N1 bn1
    have y0 := ck_at N1 0
    have y1 := ck_at N1 1
    have y2 := ck_at N1 2
    have y3 := ck_at N1 3
    simp only [List.getElem?_cons_zero, List.getElem?_cons_succ] at y0 y1 y2 y3
    have HN0 := tNumber_any v w1
    obtain ⟨n, hn⟩ : ∃ n, n = (nuR v.data.toList).1 := ⟨_, rfl⟩
    obtain ⟨E, hE⟩ : ∃ E, E = (nuR v.data.toList).2 := ⟨_, rfl⟩
    rw [← hn, ← hE] at HN0
    have HN : Hid _ := HN0
    have HT : Hid (takesM ⟨5, lo, hi, an⟩ v = (E == 0 && (decide (lo ≤ n) && decide (n ≤ hi)))) := (by unfold takesM; simp only [← hn, ← hE]; simp : takesM ⟨5, lo, hi, an⟩ v = (E == 0 && (decide (lo ≤ n) && decide (n ≤ hi))))
    clear hn hE HN0
    have F : Hid _ := And.intro bn1 N1
    clear bn1 N1
    rw [HT.out]
    clear HT
    by_cases hE : E = 0
    · subst hE
      by_cases hlo : lo ≤ n
      · rw [decide_eq_true hlo]
        go_enter Tryd.func37, Tryd.ntmps37
        go_upto_region 1 with fail
        rw [← hw1]
        clear hw1
        go_wp2_with fail
        refine (Calls.mono HN.out) ?_
        rintro e w2 ⟨rfl, b2⟩
        clear HN y0 y1 y2 y3
        have B2 := F.out.2.laterB b2
        have z0 := ck_at B2 0
        have z1 := ck_at B2 1
        have z2 := ck_at B2 2
        have z3 := ck_at B2 3
        simp only [List.getElem?_cons_zero, List.getElem?_cons_succ] at z0 z1 z2 z3
        have F2 : Hid _ := below_then F.out.1 b2
        clear b2 B2 F
        go_wp2
        go_ret
        exact ⟨by first | rfl | simp, F2.out⟩
      · rw [decide_eq_false hlo]
        go_enter Tryd.func37, Tryd.ntmps37
        go_upto_region 1 with fail
        rw [← hw1]
        clear hw1
        go_wp2_with fail
        refine (Calls.mono HN.out) ?_
        rintro e w2 ⟨rfl, b2⟩
        clear HN y0 y1 y2 y3
        have B2 := F.out.2.laterB b2
        have z0 := ck_at B2 0
        have z1 := ck_at B2 1
        have z2 := ck_at B2 2
        have z3 := ck_at B2 3
        simp only [List.getElem?_cons_zero, List.getElem?_cons_succ] at z0 z1 z2 z3
        have F2 : Hid _ := below_then F.out.1 b2
        clear b2 B2 F
        go_wp2
        go_ret
        exact ⟨by first | rfl | simp, F2.out⟩
    · have dE : (E == 0) = false := by simpa using hE
      rw [dE]
      clear hE
      go_enter Tryd.func37, Tryd.ntmps37
      go_upto_region 1 with fail
      rw [← hw1]
      clear hw1
      go_wp2_with fail
      refine (Calls.mono HN.out) ?_
      rintro e w2 ⟨rfl, b2⟩
      clear HN y0 y1 y2 y3
      have B2 := F.out.2.laterB b2
      have z0 := ck_at B2 0
      have z1 := ck_at B2 1
      have z2 := ck_at B2 2
      have z3 := ck_at B2 3
      simp only [List.getElem?_cons_zero, List.getElem?_cons_succ] at z0 z1 z2 z3
      have F2 : Hid _ := below_then F.out.1 b2
      clear b2 B2 F
      go_wp2
      go_ret
      exact ⟨by first | rfl | simp, F2.out⟩
theorem rlI_form (j : Nat) (h : j ≤ 21) : (rlI j).f = 0 ∨ (rlI j).f = 1 ∨ (rlI j).f = 2 ∨ (rlI j).f = 3 ∨ (rlI j).f = 4 ∨ (rlI j).f = 5 := by
  rcases nat22 h with rfl | rfl | rfl | rfl | rfl | rfl | rfl | rfl | rfl | rfl | rfl | rfl | rfl | rfl | rfl | rfl | rfl | rfl | rfl | rfl | rfl | rfl <;> decide
theorem tTakes_any (j : Nat) (h : j ≤ 21) (v : ByteArray) (w : World) : Calls Tryd.prog 37 #[.agg (rlI j).c.toArray, .string v] w fun e w' => e = .returned (.bool (takesM (rlI j) v)) ∧ Below w.heap.size w w' := tTakesR _ _ _ _ v w (rlI_form j h)
end Go.Proofs.YtligmiajlbjecaaDoor
