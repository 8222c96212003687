/- Pairs that came in. -/
import Derived.Test.YtligmiajlbjecaaDoorXOpA
import Derived.Test.YtligmiajlbjecaaDoorXWd1
import Derived.Test.YtligmiajlbjecaaDoorXTx8
import Derived.ChangeMaps5
import Derived.Test.YtligmiajlbjecaaDoorXDraw
import Derived.Test.YtligmiajlbjecaaDoorXGs1
namespace Go.Proofs.YtligmiajlbjecaaDoor
open Go.ChangeShapes Go.WideShapes Go.ChangeAt Go.RowKit Go.Deep
set_option linter.unusedVariables false
set_option maxRecDepth 100000

theorem cells_prz : Tryd.prog.cellsOf 41 = 2 := by kernel_rfl
theorem under_prz : ∃ f0 f1, Tryd.prog.underlying 41 = some (.struct #[f0, f1]) ∧ (f0.offset = 0 ∧ f1.offset = 1) ∧ (Tryd.prog.cellsOf f0.type = 1 ∧ Tryd.prog.cellsOf f1.type = 1) ∧ (Tryd.prog.underlying f0.type = some .string ∧ Tryd.prog.underlying f1.type = some .string) := by
  exact ⟨_, _, Tryd.underlying41, ⟨rfl, rfl⟩, ⟨by kernel_rfl, by kernel_rfl⟩, ⟨Tryd.underlying9, Tryd.underlying9⟩⟩
theorem opn_prz_cells {H : Type} {enc : TypeId × Value → H} {W : World} {cs : List Value} {d : DataW H} {p : List MemPlace} {fuel : Nat} (hlen : cs.length = 2)
    (hf : DataW.trod enc Tryd.prog W 0 (fun _ => true) true fuel 41 cs = some (d, p)) (hwt : ∀ n ∈ d.weights Tryd.prog 41, n ≤ reachBytes) :
    ∃ (z0 : ByteArray) (z1 : ByteArray), cs = [.string z0, .string z1] ∧ z0.size ≤ maxLen ∧ z1.size ≤ maxLen := by
  obtain ⟨f0, f1, hu, ⟨o0, o1⟩, ⟨c0, c1⟩, ⟨u0, u1⟩⟩ := under_prz
  obtain ⟨xs, k, hk, hxy, _, hxl, hfl⟩ := DataW.trod_struct hu hf
  match xs, hxl, cs, hlen with
  | [y0, y1], _, [v0, v1], _ =>
    simp only [Prod.mk.injEq] at hxy
    have hd : d = .agg [y0.1, y1.1] := hxy.1
    have g0 := hfl 0 f0 rfl
    have g1 := hfl 1 f1 rfl
    simp [o0, o1, c0, c1] at g0 g1
    obtain ⟨z0, q0, _, r0⟩ := DataW.trod_string u0 g0
    simp at q0
    subst q0
    obtain ⟨z1, q1, _, r1⟩ := DataW.trod_string u1 g1
    simp at q1
    subst q1
    exact ⟨z0, z1, rfl, r0, r1⟩
theorem open_prz {H : Type} {enc : TypeId × Value → H} {W : World} {r : Reach} {b0 : Nat} {v : Value} {d : DataW H} {p : List MemPlace} {ts : List TypeId} {ds : List (DataW H)} {j : Nat}
    (hv : Value.okWide Tryd.prog W r b0 41 v) (h : DataW.Trod enc Tryd.prog W 0 (fun _ => true) true 41 v d p)
    (hsz : (DataW.weightsEach Tryd.prog ts ds).all (· ≤ reachBytes) = true) (ht : ts[j]? = some 41) (hd : ds[j]? = some d) :
    ∃ (z0 : ByteArray) (z1 : ByteArray), v = .agg #[.string z0, .string z1] ∧ z0.size ≤ maxLen ∧ z1.size ≤ maxLen := by
  obtain ⟨f0, f1, hu, _⟩ := under_prz
  obtain ⟨cs, rfl, hcs⟩ := okWide_struct hu hv
  obtain ⟨fuel, hf⟩ := h
  rw [cells_prz] at hcs
  obtain ⟨z0, z1, he, hO⟩ := opn_prz_cells (cs := cs.toList) (by simpa using hcs) hf (fun m hm => by
    have := List.all_eq_true.1 hsz _ (DataW.weights_mem_each ht hd _ hm)
    simpa using this)
  exact ⟨z0, z1, by rw [← he], hO⟩
/-- the struct number i of a slice -/
def PrzAt (W : World) (b off i : Nat) : Prop := ∃ (z0 : ByteArray) (z1 : ByteArray), W.cell? ⟨b, off + i * 2, none⟩ = some (.string z0) ∧ W.cell? ⟨b, off + i * 2 + 1, none⟩ = some (.string z1) ∧ z0.size ≤ maxLen ∧ z1.size ≤ maxLen
structure PrzArg (W : World) (a : Option Addr) (len cap : Nat) : Prop where
  le : len ≤ cap
  most : cap ≤ maxLen
  few : len * 32 ≤ 140737488355328
  nil : a = none → cap = 0
  each : len ≠ 0 → ∃ b off, a = some ⟨b, off, none⟩ ∧ ∀ i, i < len → PrzAt W b off i
theorem bytes_prz : Tryd.prog.bytesOf 41 = 32 := by kernel_rfl
theorem open_przs {H : Type} {enc : TypeId × Value → H} {W : World} {r : Reach} {b0 : Nat} {v : Value} {d : DataW H} {p : List MemPlace} {ts : List TypeId} {ds : List (DataW H)} {j : Nat}
    (hv : Value.okWide Tryd.prog W r b0 22 v) (h : DataW.Trod enc Tryd.prog W 0 (fun _ => true) true 22 v d p)
    (hsz : (DataW.weightsEach Tryd.prog ts ds).all (· ≤ reachBytes) = true) (ht : ts[j]? = some 22) (hd : ds[j]? = some d) :
    ∃ a len cap, v = .slice a len cap ∧ PrzArg W a len cap := by
  obtain ⟨a, len, cap, rfl⟩ := okWide_slice Tryd.underlying22 hv
  obtain ⟨fuel, hf⟩ := h
  refine ⟨a, len, cap, rfl, ?_⟩
  rcases open_slice Tryd.underlying22 hf with ⟨hcs, hx⟩ | ⟨x, len', cap', m, n, D, Pl, hcs, hb, hl, hm, hmm, hx, hel⟩
  · simp [Value.cells] at hcs
    obtain ⟨rfl, rfl, rfl⟩ := hcs
    exact ⟨Nat.le_refl _, by simp, by omega, fun _ => rfl, fun h => absurd rfl h⟩
  · simp [Value.cells] at hcs
    obtain ⟨rfl, rfl, rfl⟩ := hcs
    simp at hmm
    subst hmm
    simp only [Prod.mk.injEq] at hx
    have hbound : len * 32 ≤ 140737488355328 := by
      have hd' := hd
      rw [hx.1] at hd'
      have := sized_slice hsz ht hd' Tryd.underlying22
      rw [bytes_prz, List.length_map, List.length_range] at this
      unfold reachBytes at this
      omega
    refine ⟨hl, hm, hbound, (fun h => by cases h), fun h0 => ?_⟩
    have hspot : x.spot = none := by
      obtain ⟨cs', h1, _⟩ := hel 0 (by omega)
      rw [cells_prz] at h1
      obtain ⟨_, hlen, hcell⟩ := World.cells?_some h1
      have := World.cell?_spot ((hcell 0 (by omega)).trans (List.getElem?_eq_getElem (by omega)))
      simpa [Addr.add] using this
    obtain ⟨b, off, spot⟩ := x
    simp only at hspot
    subst hspot
    refine ⟨b, off, rfl, fun i hi => ?_⟩
    obtain ⟨cs', h1, h2⟩ := hel i (by omega)
    rw [cells_prz] at h1
    obtain ⟨_, hlen, hcell⟩ := World.cells?_some h1
    have hmem : D i ∈ (List.range len).map D := List.mem_map.2 ⟨i, List.mem_range.2 hi, rfl⟩
    obtain ⟨z0, z1, rfl, hO⟩ := opn_prz_cells hlen h2 (fun m hm => by
      have m3 : m ∈ DataW.weights Tryd.prog 22 d := by
        rw [hx.1, DataW.weights, Tryd.underlying22]
        exact List.mem_cons_of_mem _ (List.mem_append_left _ (opn_weights hmem _ hm))
      have := List.all_eq_true.1 hsz _ (DataW.weights_mem_each ht hd _ m3)
      simpa using this)
    have e0 := hcell 0 (by omega)
    have e1 := hcell 1 (by omega)
    simp only [opn_add, List.getElem?_cons_zero, List.getElem?_cons_succ, Nat.add_zero] at e0 e1
    exact ⟨z0, z1, e0, e1, hO⟩
/-- a pair of the document's -/
def kRp : Kd (ByteArray × ByteArray) := ⟨41, 22, 2, 32, .agg #[.string ⟨#[]⟩, .string ⟨#[]⟩], fun x => [.string x.1, .string x.2]⟩
theorem kRp_ok : kRp.Ok := ⟨by simp [kRp], fun x => rfl, fun x u hu => by simp [kRp] at hu; rcases hu with rfl | rfl <;> rfl, Tryd.underlying22, by kernel_rfl, rfl, by simp [kRp]⟩
/-- pairs that came in -/
structure PrArg (W : World) (a : Option Addr) (len cap : Nat) (l : List (ByteArray × ByteArray)) : Prop where
  len_eq : len = l.length
  at_ : GAt kRp W (.slice a l.length cap) l
  few : l.length * 32 ≤ 140737488355328
  short : ∀ x ∈ l, x.1.size ≤ maxLen ∧ x.2.size ≤ maxLen
theorem pr_list {W : World} {b off len : Nat} (hc : ∀ i, i < len → PrzAt W b off i) : ∀ n, n ≤ len → ∃ l : List (ByteArray × ByteArray), l.length = n ∧ (∀ x ∈ l, x.1.size ≤ maxLen ∧ x.2.size ≤ maxLen) ∧ ∀ j u, (kRp.cs l)[j]? = some u → W.cell? ⟨b, off + j, none⟩ = some u
  | 0, _ => ⟨[], rfl, (fun x h => by cases h), fun j u h => by simp [Kd.cs] at h⟩
  | n + 1, hn => by
    obtain ⟨l, hl, hs, ih⟩ := pr_list hc n (by omega)
    obtain ⟨z0, z1, e0, e1, r0, r1⟩ := hc n (by omega)
    refine ⟨l ++ [(z0, z1)], by simp [hl], fun x hx => ?_, fun j u h => ?_⟩
    · rcases List.mem_append.1 hx with hx | hx
      · exact hs x hx
      · rw [List.mem_singleton.1 hx]; exact ⟨r0, r1⟩
    rw [Kd.cs_append, List.getElem?_append] at h
    have hlen : (kRp.cs l).length = n * 2 := by rw [Kd.cs_length kRp_ok, hl]; rfl
    rw [hlen] at h
    split at h
    · exact ih j u h
    · have e : kRp.cs [(z0, z1)] = [.string z0, .string z1] := rfl
      rw [e] at h
      rcases hj : j - n * 2 with _ | _ | k
      · rw [hj] at h
        obtain rfl : j = n * 2 := by omega
        simpa using e0.trans h
      · rw [hj] at h
        obtain rfl : j = n * 2 + 1 := by omega
        rw [← Nat.add_assoc]
        simpa using e1.trans h
      · rw [hj] at h
        simp at h
theorem pr_arg {W : World} {a : Option Addr} {len cap : Nat} (h : PrzArg W a len cap) : ∃ l, PrArg W a len cap l := by
  rcases Nat.eq_zero_or_pos len with h0 | h0
  · subst h0
    exact ⟨[], rfl, ⟨a, cap, rfl, Nat.zero_le _, fun e => ⟨rfl, h.nil e⟩, fun ad e j u hu => by simp [Kd.cs] at hu⟩, by simp, (fun x hx => by cases hx)⟩
  · obtain ⟨b, off, rfl, hc⟩ := h.each (by omega)
    obtain ⟨l, hl, hs, hcs⟩ := pr_list hc len (Nat.le_refl _)
    refine ⟨l, hl.symm, ⟨_, cap, rfl, by rw [hl]; exact h.le, (fun e => by cases e), fun ad e j u hu => ?_⟩, by rw [hl]; exact h.few, hs⟩
    cases e
    rw [opn_add]
    exact hcs j u hu
theorem open_prs {H : Type} {enc : TypeId × Value → H} {W : World} {r : Reach} {b0 : Nat} {v : Value} {d : DataW H} {p : List MemPlace} {ts : List TypeId} {ds : List (DataW H)} {j : Nat}
    (hv : Value.okWide Tryd.prog W r b0 22 v) (h : DataW.Trod enc Tryd.prog W 0 (fun _ => true) true 22 v d p)
    (hsz : (DataW.weightsEach Tryd.prog ts ds).all (· ≤ reachBytes) = true) (ht : ts[j]? = some 22) (hd : ds[j]? = some d) :
    ∃ a len cap l, v = .slice a len cap ∧ PrArg W a len cap l := by
  obtain ⟨a, len, cap, e, hA⟩ := open_przs hv h hsz ht hd
  obtain ⟨l, hl⟩ := pr_arg hA
  exact ⟨a, len, cap, l, e, hl⟩
end Go.Proofs.YtligmiajlbjecaaDoor

/- Pairs in memory: given, taken. -/
namespace Go.Proofs.YtligmiajlbjecaaDoor
open Go.RowKit
set_option linter.unusedVariables false
set_option linter.unusedSimpArgs false
set_option maxRecDepth 8000

theorem rcell {w w' : World} {x : Addr} {v : Value} (hb : Below w.heap.size w w') (h : w.cell? x = some v) : w'.cell? x = some v := by
  have hx : x.block < w.heap.size := by
    rcases Nat.lt_or_ge x.block w.heap.size with h1 | h1
    · exact h1
    · unfold World.cell? at h
      rw [Array.getElem?_eq_none h1] at h
      simp at h
  rw [World.cell?_of_block (w := w) (hb.block _ hx)]
  exact h
section
variable {α : Type} {K : Kd α} {w w' : World} {v x : Value} {q : Option Nat} {l m : List α}
/-- more things, out of things that are read -/
theorem GSl.appendC (hK : K.Ok) (h : GSl K w v q l) (hx : GAt K w x m) (hmax : l.length + m.length ≤ 140737488355328) (hby2 : (l.length + m.length) * K.bs ≤ 140737488355328) (ty : TypeId) :
    ∃ v' w' q', (Builtin.append_ #[K.T, K.T] ty #[v, x]).run Tryd.prog w = .ok v' w' ∧ GSl K w' v' q' (l ++ m) ∧ w.grownBy w' q ∧ ∀ b, q' = some b → q = some b ∨ w.heap.size ≤ b := by
  obtain ⟨i0, hi, hz0, hz1, hz2⟩ := info_parts hK.info
  obtain ⟨a, c, rfl, hmc, hnil, hcell⟩ := hx
  have hone := Kd.cs_one hK m
  have hln := Kd.cs_length hK m
  have hg0 : ∀ r, w.grownBy w r := fun r => ⟨rfl, rfl, rfl, Nat.le_refl _, fun _ _ _ => rfl⟩
  cases a with
  | none =>
    obtain ⟨rfl, rfl⟩ := hnil rfl
    rw [List.append_nil]
    obtain ⟨aa, cc, hv, hle, -, -⟩ := h.cell hK
    refine ⟨v, w, q, ?_, h, hg0 _, fun b hb => .inl hb⟩
    rw [hv]
    exact run_append_nothing w K.T K.T ty K.E i0 hK.und hi aa l.length cc hle _ (Src.ofNil w hK.und 0)
  | some ad =>
    have hnews := hcell ad rfl
    rcases h with ⟨rfl, rfl, rfl⟩ | ⟨b, off, cap, cur, rfl, rfl, h3, h4, h5, h6, h7⟩
    · obtain ⟨v', w', hr, h2, h3, -, h5⟩ := run_append_own_at (P := Tryd.prog) w 0 K.T ty K.E i0 K.z K.s K.bs hK.und hi hz0 hz1 hz2 hK.zs hK.pos (.slice none 0 0) 0 [] (World.ownsRow_nil _ _ _ _) ad m.length c (K.cs m) hln hnews hone (by unfold maxLen; simp at hmax; omega) (by simpa using hby2) (Nat.zero_le _)
      refine ⟨v', w', v'.ownBlock, hr, (GSl.ofOwn hK (by simpa using h2)).1, h3, fun b hb => ?_⟩
      rcases h5 with e | e
      · rw [e] at hb; cases hb
      · rw [e] at hb; cases hb; exact .inr (Nat.le_refl _)
    · by_cases hroom : l.length + m.length ≤ cap
      · have hfit : off + l.length * K.s + (K.cs m).length ≤ cur.length := by
          have : (l.length + m.length) * K.s ≤ cap * K.s := Nat.mul_le_mul_right _ hroom
          rw [Nat.add_mul] at this; omega
        have hr := run_append_room_cells (P := Tryd.prog) w K.T ty K.E i0 hK.und hi b off l.length cap ad m.length c (K.cs m) (by rw [hz1]; exact hln) hnews hone hroom
          (fun j hj => by rw [hz1, blk_at h3, List.getElem?_eq_getElem (by omega)]; rfl) (fun j hj => blk_frozen h3 _)
        rw [hz1] at hr
        obtain ⟨B1, g1⟩ := Blk.setCells (K.cs m) (off + l.length * K.s) w cur h3 hfit
        refine ⟨_, _, some b, hr, .inr ⟨b, off, cap, _, rfl, by simp, B1, ?_, by simp; omega, h6, ?_⟩, g1, fun c hc => .inl hc⟩
        · rw [length_splice _ _ _ (by omega)]; exact h4
        · have := splice_mid h7 (Kd.cs_length hK l) (D := K.cs m) (by omega)
          rw [hln, ← Nat.add_mul] at this
          rw [List.length_append, this, Kd.cs_append]
      · have holds : ∀ j y, (K.cs l)[j]? = some y → w.cell? ((⟨b, off, none⟩ : Addr).add j) = some y := by
          have hA : GAt K w (.slice (some ⟨b, off, none⟩) l.length cap) l := GSl.at hK (.inr ⟨b, off, cap, cur, rfl, rfl, h3, h4, h5, h6, h7⟩)
          obtain ⟨a', c', e', _, _, h'⟩ := hA
          cases e'
          exact h' _ rfl
        obtain ⟨v', w', hr, ho, hg⟩ := run_append_arg_grows (P := Tryd.prog) w K.T ty K.E i0 K.z K.s K.bs hK.und hi hz0 hz1 hz2 hK.zs hK.pos ⟨b, off, none⟩ l.length cap (K.cs l) (Kd.cs_length hK l) holds ad m.length c (K.cs m) hln hnews (by omega) (by unfold maxLen; omega) hby2
        have hN := GSl.ofOwn hK (l := l ++ m) (by rw [Kd.cs_append, List.length_append]; exact ho)
        exact ⟨v', w', v'.ownBlock, hr, hN.1, grown_none hg _, fun c hc => .inr (hN.2 c hc)⟩
theorem gat_later (hb : Below w.heap.size w w') (h : GAt K w v l) : GAt K w' v l := by
  obtain ⟨a, c, e, h1, h2, h3⟩ := h
  exact ⟨a, c, e, h1, h2, fun ad had j u hj => rcell hb (h3 ad had j u hj)⟩
theorem GAt.each (hK : K.Ok) {a : Option Addr} {n c : Nat} (h : GAt K w (.slice a n c) l) (k : Nat) (hk : k < l.length) : ∃ b off, a = some ⟨b, off, none⟩ ∧ ∀ j, j < K.s → w.cell? ⟨b, off + k * K.s + j, none⟩ = (K.f l[k])[j]? := by
  obtain ⟨a', c', e, h1, h2, h3⟩ := h
  cases e
  cases a with
  | none => obtain ⟨rfl, -⟩ := h2 rfl; simp at hk
  | some ad =>
    have key : ∀ k (hk : k < l.length) j, j < K.s → w.cell? (ad.add (k * K.s + j)) = (K.f l[k])[j]? := fun k hk j hj => by
      have hlt : j < (K.f l[k]).length := by rw [hK.len]; exact hj
      have e := Kd.cs_at hK l k j hk hj
      rw [List.getElem?_eq_getElem hlt] at e ⊢
      exact h3 _ rfl _ _ e
    have h0 : 0 < (K.f (l[0]'(by omega))).length := by rw [hK.len]; exact hK.pos
    have k0 := key 0 (by omega) 0 hK.pos
    rw [List.getElem?_eq_getElem h0] at k0
    have hs := World.cell?_spot k0
    obtain ⟨b, off, spot⟩ := ad
    have hspot : spot = none := by simpa [Addr.add] using hs
    subst hspot
    refine ⟨b, off, rfl, fun j hj => ?_⟩
    have := key k hk j hj
    rw [Addr.add_lit, ← Nat.add_assoc] at this
    exact this
theorem GAt.len {a : Option Addr} {n c : Nat} (h : GAt K w (.slice a n c) l) : n = l.length ∧ n ≤ c := by
  obtain ⟨a', c', e, h1, -⟩ := h
  cases e
  exact ⟨rfl, h1⟩
end
/-- ranges that a call has made -/
structure PrI (K : Kd (ByteArray × ByteArray)) (w w' : World) (v : Value) (l : List (ByteArray × ByteArray)) : Prop where
  own : ∃ q, GSl K w' v q l ∧ ∀ b, q = some b → w.heap.size ≤ b
  bel : Below w.heap.size w w'
theorem PrI.nil (K : Kd (ByteArray × ByteArray)) (w : World) : PrI K w w (.slice none 0 0) [] := ⟨⟨none, GSl.nil _ _, fun b h => by cases h⟩, Below.refl _ _⟩
theorem PrI.none {K : Kd (ByteArray × ByteArray)} {w w' : World} (hb : Below w.heap.size w w') : PrI K w w' (.slice none 0 0) [] := ⟨⟨Option.none, GSl.nil _ _, fun b h => by cases h⟩, hb⟩
section
variable {K : Kd (ByteArray × ByteArray)} {w w1 w2 : World} {v : Value} {l : List (ByteArray × ByteArray)}
theorem PrI.later (h : PrI K w w1 v l) (hb : Below w1.heap.size w1 w2) : PrI K w w2 v l := by
  obtain ⟨⟨q, h1, h2⟩, h3⟩ := h
  exact ⟨⟨q, h1.later hb, h2⟩, below_then h3 hb⟩
theorem PrI.slice (h : PrI K w w1 v l) (hK : K.Ok) : ∃ a n c, v = .slice a n c := by
  obtain ⟨⟨q, h1, h2⟩, h3⟩ := h
  obtain ⟨a, c, e, -⟩ := h1.cell hK
  exact ⟨a, _, c, e⟩
theorem PrI.at (h : PrI K w w1 v l) (hK : K.Ok) : ∃ a c, v = .slice a l.length c ∧ GAt K w1 v l := by
  obtain ⟨⟨q, h1, h2⟩, h3⟩ := h
  obtain ⟨a, c, e, -⟩ := h1.cell hK
  exact ⟨a, c, e, h1.at hK⟩
theorem PrI.more (h : PrI K w w1 v l) (hK : K.Ok) (x : ByteArray × ByteArray) (cs : List Value) (hcs : K.f x = cs) (h1 : l.length + 1 ≤ 140737488355328) (h2 : (l.length + 1) * K.bs ≤ 140737488355328) :
    ∃ v2 w2, (Builtin.append_ #[K.T, K.T] K.T #[v, .slice (some ⟨w1.heap.size, 0, Option.none⟩) 1 1]).run Tryd.prog (w1.alloc (.cells cs.toArray K.E)) = .ok v2 w2 ∧ PrI K w w2 v2 (l ++ [x]) := by
  obtain ⟨⟨q, hq, hb⟩, bel⟩ := h
  have bn : Below w1.heap.size w1 (w1.alloc (.cells cs.toArray K.E)) := (Below.refl _ _).alloc (Nat.le_refl _) _
  have hx : GAt K (w1.alloc (.cells cs.toArray K.E)) (.slice (some ⟨w1.heap.size, 0, Option.none⟩) 1 1) [x] := by
    refine ⟨_, 1, rfl, by simp, (fun h => by cases h), fun ad h j u hj => ?_⟩
    cases h
    rw [Addr.add_lit, blk_at (Blk.new' w1 K.E cs), Nat.zero_add]
    simpa [Kd.cs, hcs] using hj
  obtain ⟨v2, w2, q2, hr, ho, hg, hor⟩ := (hq.later bn).appendC hK hx (by simpa using h1) (by simpa using h2) K.T
  refine ⟨v2, w2, hr, ⟨⟨q2, ho, fun b hb2 => ?_⟩, ?_⟩⟩
  · rcases hor b hb2 with e | e
    · exact hb b e
    · have := bn.size; have := bel.size; omega
  · exact (below_then bel bn).grown hg (below_then bel bn).size (fun k h => hb k h)
end
set_option maxHeartbeats 2000000 in
theorem given18_any (a : Option Addr) (c : Nat) (l : List (ByteArray × ByteArray)) (w : World) (hA : GAt kRp w (.slice a l.length c) l) (hl : l.length * 32 ≤ 140737488355328) :
    Calls Tryd.prog 11 #[.slice a l.length c] w fun e w' => ∃ v, e = .returned v ∧ PrI kPr w w' v l := by
  have HA : Hid _ := And.intro hA trivial
  have hlI : (l.length : Int) ≤ 140737488355328 := by omega
  clear hA
  go_enter Tryd.func11, Tryd.ntmps11
  go_wp2_with fail
  go_loopw [3, 4] (fun ov iv wr => ∃ k : Nat, iv = .int .i64 k ∧ k ≤ l.length ∧ PrI kPr w wr ov (l.take k)) (fun _ iv _ => l.length - (intOf iv).toNat)
  case atStart => exact ⟨0, rfl, Nat.zero_le _, PrI.nil _ _⟩
  case round =>
    obtain ⟨k, rfl, hk, hI⟩ := hrel
    by_cases hlt : k < l.length
    · have q1 : (k : Int) < (l.length : Int) := by omega
      obtain ⟨b, off, rfl, hc⟩ := (HA.out.1).each kRp_ok k hlt
      have hc0 := hc 0 (by simp [kRp])
      have hc1 := hc 1 (by simp [kRp])
      simp only [kRp, List.getElem?_cons_zero, List.getElem?_cons_succ, Nat.add_zero] at hc0 hc1
      obtain ⟨x, hx⟩ : ∃ x, x = l[k] := ⟨_, rfl⟩
      have htk : l.take (k + 1) = l.take k ++ [x] := by rw [hx]; exact List.take_succ_eq_append_getElem hlt
      rw [← hx] at hc0 hc1
      have l0 : ∀ W, Below w.heap.size w W → W.cell? ⟨b, off + k * 2, none⟩ = some (.string x.1) := fun W hW => rcell hW hc0
      have l1 : ∀ W, Below w.heap.size w W → W.cell? ⟨b, off + k * 2 + 1, none⟩ = some (.string x.2) := fun W hW => rcell hW hc1
      obtain ⟨v2, w2, hr, hI2⟩ := (hI.later (Below.refl wr.heap.size wr).drew).more kPr_ok x [.string x.1, .string x.2] rfl (by rw [List.length_take]; omega) (by rw [List.length_take]; show (min k l.length + 1) * 32 ≤ _; omega)
      rw [← htk] at hI2
      obtain ⟨a2, n2, c2, e2⟩ := hI2.slice kPr_ok
      obtain ⟨a3, n3, c3, e3⟩ := hI.slice kPr_ok
      subst e2
      subst e3
      have HB : Hid (Below w.heap.size w wr.drew ∧ Below w.heap.size w (wr.drew.alloc (.cells #[.string x.1, .string x.2] 59)) ∧ _ ∧ Below w.heap.size w w2) := And.intro (below_then hI.bel (Below.refl _ _).drew) (And.intro (below_then hI.bel (((Below.refl _ _).drew).alloc (Nat.le_refl _) _)) (And.intro hr hI2.bel))
      have F : Hid _ := hI2
      clear hc hc0 hc1 hr hI hI2 htk hx
      go_wp2_with fail
      refine wp_region_held_drew (S := fun W => Below w.heap.size w W) (by kernel_rfl) (HB.out.1) (fun hS => ?_)
      refine any_take (i := 0) (v := ?_) rfl (by kernel_rfl) (by kernel_rfl) (by kernel_rfl) (by exact fun _ _ _ h => h) (by rfl) ?_ hS ?_
      rotate_left
      · ((intro w hSw; have f0 := l0 w hSw; have f1 := l1 w hSw; (try dsimp only at hSw); go_simp) <;> with_reducible rfl)
      (try simp only [Act.put, List.setIfInBounds_toArray, List.set_cons_zero, List.set_cons_succ])
      refine any_take (i := 1) (v := ?_) rfl (by kernel_rfl) (by kernel_rfl) (by kernel_rfl) (by exact fun _ _ _ h => h) (by rfl) ?_ hS ?_
      rotate_left
      · ((intro w hSw; have f0 := l0 w hSw; have f1 := l1 w hSw; (try dsimp only at hSw); go_simp) <;> with_reducible rfl)
      (try simp only [Act.put, List.setIfInBounds_toArray, List.set_cons_zero, List.set_cons_succ])
      refine any_take (i := 2) (v := ?_) rfl (by kernel_rfl) (by kernel_rfl) (by kernel_rfl) (by exact fun _ _ _ h => h) (by rfl) ?_ hS ?_
      rotate_left
      · ((intro w hSw; have f0 := l0 w hSw; have f1 := l1 w hSw; (try dsimp only at hSw); go_simp) <;> with_reducible rfl)
      (try simp only [Act.put, List.setIfInBounds_toArray, List.set_cons_zero, List.set_cons_succ])
      refine any_take (i := 3) (v := ?_) rfl (by kernel_rfl) (by kernel_rfl) (by kernel_rfl) (by exact fun _ _ _ h => h) (by rfl) ?_ hS ?_
      rotate_left
      · ((intro w hSw; have f0 := l0 w hSw; have f1 := l1 w hSw; (try dsimp only at hSw); go_simp) <;> with_reducible rfl)
      (try simp only [Act.put, List.setIfInBounds_toArray, List.set_cons_zero, List.set_cons_succ])
      refine any_take (i := 4) (v := ?_) rfl (by kernel_rfl) (by kernel_rfl) (by kernel_rfl) (by exact fun _ _ _ h => h) (by rfl) ?_ hS ?_
      rotate_left
      · ((intro w hSw; have f0 := l0 w hSw; have f1 := l1 w hSw; (try dsimp only at hSw); go_simp) <;> with_reducible rfl)
      (try simp only [Act.put, List.setIfInBounds_toArray, List.set_cons_zero, List.set_cons_succ])
      refine any_take (i := 5) (v := ?_) rfl (by kernel_rfl) (by kernel_rfl) (by kernel_rfl) (by exact fun _ _ _ h => h) (by rfl) ?_ hS ?_
      rotate_left
      · ((intro w hSw; have f0 := l0 w hSw; have f1 := l1 w hSw; (try dsimp only at hSw); go_simp) <;> with_reducible rfl)
      (try simp only [Act.put, List.setIfInBounds_toArray, List.set_cons_zero, List.set_cons_succ])
      refine any_take (i := 6) (v := ?_) rfl (by kernel_rfl) (by kernel_rfl) (by kernel_rfl) (by exact fun _ _ _ h => h) (by rfl) ?_ hS ?_
      rotate_left
      · ((intro w hSw; have f0 := l0 w hSw; have f1 := l1 w hSw; (try dsimp only at hSw); go_simp) <;> with_reducible rfl)
      (try simp only [Act.put, List.setIfInBounds_toArray, List.set_cons_zero, List.set_cons_succ])
      refine any_take (i := 7) (v := ?_) rfl (by kernel_rfl) (by kernel_rfl) (by kernel_rfl) (by exact fun _ _ _ h => h) (by rfl) ?_ hS ?_
      rotate_left
      · ((intro w hSw; have f0 := l0 w hSw; have f1 := l1 w hSw; (try dsimp only at hSw); go_simp) <;> with_reducible rfl)
      (try simp only [Act.put, List.setIfInBounds_toArray, List.set_cons_zero, List.set_cons_succ])
      refine any_take (i := 8) (v := ?_) rfl (by kernel_rfl) (by kernel_rfl) (by kernel_rfl) (by exact fun _ _ _ h => h) (by rfl) ?_ hS ?_
      rotate_left
      · ((intro w hSw; have f0 := l0 w hSw; have f1 := l1 w hSw; (try dsimp only at hSw); go_simp) <;> with_reducible rfl)
      (try simp only [Act.put, List.setIfInBounds_toArray, List.set_cons_zero, List.set_cons_succ])
      refine any_take (i := 9) (v := ?_) rfl (by kernel_rfl) (by kernel_rfl) (by kernel_rfl) (by exact fun _ _ _ h => h) (by rfl) ?_ hS ?_
      rotate_left
      · ((intro w hSw; have f0 := l0 w hSw; have f1 := l1 w hSw; (try dsimp only at hSw); go_simp) <;> with_reducible rfl)
      (try simp only [Act.put, List.setIfInBounds_toArray, List.set_cons_zero, List.set_cons_succ])
      refine any_take (i := 10) (v := ?_) rfl (by kernel_rfl) (by kernel_rfl) (by kernel_rfl) (by exact fun _ _ _ h => h) (by rfl) ?_ hS ?_
      rotate_left
      · ((intro w hSw; have f0 := l0 w hSw; have f1 := l1 w hSw; (try dsimp only at hSw); go_simp) <;> with_reducible rfl)
      (try simp only [Act.put, List.setIfInBounds_toArray, List.set_cons_zero, List.set_cons_succ])
      refine any_take (i := 11) (v := ?_) rfl (by kernel_rfl) (by kernel_rfl) (by kernel_rfl) (by exact fun _ _ _ h => h) (by rfl) ?_ hS ?_
      rotate_left
      · ((intro w hSw; have f0 := l0 w hSw; have f1 := l1 w hSw; (try dsimp only at hSw); go_simp) <;> with_reducible rfl)
      (try simp only [Act.put, List.setIfInBounds_toArray, List.set_cons_zero, List.set_cons_succ])
      refine any_one (i := 12) rfl (by kernel_rfl) (fun K hK => ?_)
      go_simp
      refine hK.out _ _ (HB.out.2.1) ?_
      clear hK K hS
      have hS := HB.out.2.1
      refine any_one (i := 13) rfl (by kernel_rfl) (fun K hK => ?_)
      refine step_run_app rfl _ _ 28 28 rfl _ _ rfl rfl HB.out.2.2.1 ?_
      refine hK.out _ _ (HB.out.2.2.2) ?_
      clear hK K hS
      have hS := HB.out.2.2.2
      refine any_take (i := 14) (v := ?_) rfl (by kernel_rfl) (by kernel_rfl) (by kernel_rfl) (by exact fun _ _ _ h => h) (by rfl) ?_ hS ?_
      rotate_left
      · ((intro w hSw; skip; (try dsimp only at hSw); go_simp) <;> with_reducible rfl)
      (try simp only [Act.put, List.setIfInBounds_toArray, List.set_cons_zero, List.set_cons_succ])
      refine wpAnyH_done (by kernel_rfl) ?_ _
      clear hS l0 l1
      go_wp2
      go_roundw
      case rel => exact ⟨k + 1, by go_num, by omega, F.out⟩
      case measure => simp [intOf]; omega
    · obtain rfl : k = l.length := by omega
      rw [List.take_length] at hI
      have F : Hid _ := hI
      clear hI
      go_wp2
      go_ret
      exact ⟨_, rfl, F.out⟩
set_option maxHeartbeats 2000000 in
theorem taken18_any (a : Option Addr) (c : Nat) (l : List (ByteArray × ByteArray)) (w : World) (hA : GAt kPr w (.slice a l.length c) l) (hl : l.length * 32 ≤ 140737488355328) :
    Calls Tryd.prog 16 #[.slice a l.length c] w fun e w' => ∃ v, e = .returned v ∧ PrI kRp w w' v l := by
  have HA : Hid _ := And.intro hA trivial
  have hlI : (l.length : Int) ≤ 140737488355328 := by omega
  clear hA
  go_enter Tryd.func16, Tryd.ntmps16
  go_wp2_with fail
  go_loopw [3, 4] (fun ov iv wr => ∃ k : Nat, iv = .int .i64 k ∧ k ≤ l.length ∧ PrI kRp w wr ov (l.take k)) (fun _ iv _ => l.length - (intOf iv).toNat)
  case atStart => exact ⟨0, rfl, Nat.zero_le _, PrI.nil _ _⟩
  case round =>
    obtain ⟨k, rfl, hk, hI⟩ := hrel
    by_cases hlt : k < l.length
    · have q1 : (k : Int) < (l.length : Int) := by omega
      obtain ⟨b, off, rfl, hc⟩ := (HA.out.1).each kPr_ok k hlt
      have hc0 := hc 0 (by simp [kPr])
      have hc1 := hc 1 (by simp [kPr])
      simp only [kPr, List.getElem?_cons_zero, List.getElem?_cons_succ, Nat.add_zero] at hc0 hc1
      obtain ⟨x, hx⟩ : ∃ x, x = l[k] := ⟨_, rfl⟩
      have htk : l.take (k + 1) = l.take k ++ [x] := by rw [hx]; exact List.take_succ_eq_append_getElem hlt
      rw [← hx] at hc0 hc1
      have l0 : ∀ W, Below w.heap.size w W → W.cell? ⟨b, off + k * 2, none⟩ = some (.string x.1) := fun W hW => rcell hW hc0
      have l1 : ∀ W, Below w.heap.size w W → W.cell? ⟨b, off + k * 2 + 1, none⟩ = some (.string x.2) := fun W hW => rcell hW hc1
      obtain ⟨v2, w2, hr, hI2⟩ := (hI.later (Below.refl wr.heap.size wr).drew).more kRp_ok x [.string x.1, .string x.2] rfl (by rw [List.length_take]; omega) (by rw [List.length_take]; show (min k l.length + 1) * 32 ≤ _; omega)
      rw [← htk] at hI2
      obtain ⟨a2, n2, c2, e2⟩ := hI2.slice kRp_ok
      obtain ⟨a3, n3, c3, e3⟩ := hI.slice kRp_ok
      subst e2
      subst e3
      have HB : Hid (Below w.heap.size w wr.drew ∧ Below w.heap.size w (wr.drew.alloc (.cells #[.string x.1, .string x.2] 41)) ∧ _ ∧ Below w.heap.size w w2) := And.intro (below_then hI.bel (Below.refl _ _).drew) (And.intro (below_then hI.bel (((Below.refl _ _).drew).alloc (Nat.le_refl _) _)) (And.intro hr hI2.bel))
      have F : Hid _ := hI2
      clear hc hc0 hc1 hr hI hI2 htk hx
      go_wp2_with fail
      refine wp_region_held_drew (S := fun W => Below w.heap.size w W) (by kernel_rfl) (HB.out.1) (fun hS => ?_)
      refine any_take (i := 0) (v := ?_) rfl (by kernel_rfl) (by kernel_rfl) (by kernel_rfl) (by exact fun _ _ _ h => h) (by rfl) ?_ hS ?_
      rotate_left
      · ((intro w hSw; have f0 := l0 w hSw; have f1 := l1 w hSw; (try dsimp only at hSw); go_simp) <;> with_reducible rfl)
      (try simp only [Act.put, List.setIfInBounds_toArray, List.set_cons_zero, List.set_cons_succ])
      refine any_take (i := 1) (v := ?_) rfl (by kernel_rfl) (by kernel_rfl) (by kernel_rfl) (by exact fun _ _ _ h => h) (by rfl) ?_ hS ?_
      rotate_left
      · ((intro w hSw; have f0 := l0 w hSw; have f1 := l1 w hSw; (try dsimp only at hSw); go_simp) <;> with_reducible rfl)
      (try simp only [Act.put, List.setIfInBounds_toArray, List.set_cons_zero, List.set_cons_succ])
      refine any_take (i := 2) (v := ?_) rfl (by kernel_rfl) (by kernel_rfl) (by kernel_rfl) (by exact fun _ _ _ h => h) (by rfl) ?_ hS ?_
      rotate_left
      · ((intro w hSw; have f0 := l0 w hSw; have f1 := l1 w hSw; (try dsimp only at hSw); go_simp) <;> with_reducible rfl)
      (try simp only [Act.put, List.setIfInBounds_toArray, List.set_cons_zero, List.set_cons_succ])
      refine any_take (i := 3) (v := ?_) rfl (by kernel_rfl) (by kernel_rfl) (by kernel_rfl) (by exact fun _ _ _ h => h) (by rfl) ?_ hS ?_
      rotate_left
      · ((intro w hSw; have f0 := l0 w hSw; have f1 := l1 w hSw; (try dsimp only at hSw); go_simp) <;> with_reducible rfl)
      (try simp only [Act.put, List.setIfInBounds_toArray, List.set_cons_zero, List.set_cons_succ])
      refine any_take (i := 4) (v := ?_) rfl (by kernel_rfl) (by kernel_rfl) (by kernel_rfl) (by exact fun _ _ _ h => h) (by rfl) ?_ hS ?_
      rotate_left
      · ((intro w hSw; have f0 := l0 w hSw; have f1 := l1 w hSw; (try dsimp only at hSw); go_simp) <;> with_reducible rfl)
      (try simp only [Act.put, List.setIfInBounds_toArray, List.set_cons_zero, List.set_cons_succ])
      refine any_take (i := 5) (v := ?_) rfl (by kernel_rfl) (by kernel_rfl) (by kernel_rfl) (by exact fun _ _ _ h => h) (by rfl) ?_ hS ?_
      rotate_left
      · ((intro w hSw; have f0 := l0 w hSw; have f1 := l1 w hSw; (try dsimp only at hSw); go_simp) <;> with_reducible rfl)
      (try simp only [Act.put, List.setIfInBounds_toArray, List.set_cons_zero, List.set_cons_succ])
      refine any_take (i := 6) (v := ?_) rfl (by kernel_rfl) (by kernel_rfl) (by kernel_rfl) (by exact fun _ _ _ h => h) (by rfl) ?_ hS ?_
      rotate_left
      · ((intro w hSw; have f0 := l0 w hSw; have f1 := l1 w hSw; (try dsimp only at hSw); go_simp) <;> with_reducible rfl)
      (try simp only [Act.put, List.setIfInBounds_toArray, List.set_cons_zero, List.set_cons_succ])
      refine any_take (i := 7) (v := ?_) rfl (by kernel_rfl) (by kernel_rfl) (by kernel_rfl) (by exact fun _ _ _ h => h) (by rfl) ?_ hS ?_
      rotate_left
      · ((intro w hSw; have f0 := l0 w hSw; have f1 := l1 w hSw; (try dsimp only at hSw); go_simp) <;> with_reducible rfl)
      (try simp only [Act.put, List.setIfInBounds_toArray, List.set_cons_zero, List.set_cons_succ])
      refine any_take (i := 8) (v := ?_) rfl (by kernel_rfl) (by kernel_rfl) (by kernel_rfl) (by exact fun _ _ _ h => h) (by rfl) ?_ hS ?_
      rotate_left
      · ((intro w hSw; have f0 := l0 w hSw; have f1 := l1 w hSw; (try dsimp only at hSw); go_simp) <;> with_reducible rfl)
      (try simp only [Act.put, List.setIfInBounds_toArray, List.set_cons_zero, List.set_cons_succ])
      refine any_take (i := 9) (v := ?_) rfl (by kernel_rfl) (by kernel_rfl) (by kernel_rfl) (by exact fun _ _ _ h => h) (by rfl) ?_ hS ?_
      rotate_left
      · ((intro w hSw; have f0 := l0 w hSw; have f1 := l1 w hSw; (try dsimp only at hSw); go_simp) <;> with_reducible rfl)
      (try simp only [Act.put, List.setIfInBounds_toArray, List.set_cons_zero, List.set_cons_succ])
      refine any_take (i := 10) (v := ?_) rfl (by kernel_rfl) (by kernel_rfl) (by kernel_rfl) (by exact fun _ _ _ h => h) (by rfl) ?_ hS ?_
      rotate_left
      · ((intro w hSw; have f0 := l0 w hSw; have f1 := l1 w hSw; (try dsimp only at hSw); go_simp) <;> with_reducible rfl)
      (try simp only [Act.put, List.setIfInBounds_toArray, List.set_cons_zero, List.set_cons_succ])
      refine any_take (i := 11) (v := ?_) rfl (by kernel_rfl) (by kernel_rfl) (by kernel_rfl) (by exact fun _ _ _ h => h) (by rfl) ?_ hS ?_
      rotate_left
      · ((intro w hSw; have f0 := l0 w hSw; have f1 := l1 w hSw; (try dsimp only at hSw); go_simp) <;> with_reducible rfl)
      (try simp only [Act.put, List.setIfInBounds_toArray, List.set_cons_zero, List.set_cons_succ])
      refine any_one (i := 12) rfl (by kernel_rfl) (fun K hK => ?_)
      go_simp
      refine hK.out _ _ (HB.out.2.1) ?_
      clear hK K hS
      have hS := HB.out.2.1
      refine any_one (i := 13) rfl (by kernel_rfl) (fun K hK => ?_)
      refine step_run_app rfl _ _ 22 22 rfl _ _ rfl rfl HB.out.2.2.1 ?_
      refine hK.out _ _ (HB.out.2.2.2) ?_
      clear hK K hS
      have hS := HB.out.2.2.2
      refine any_take (i := 14) (v := ?_) rfl (by kernel_rfl) (by kernel_rfl) (by kernel_rfl) (by exact fun _ _ _ h => h) (by rfl) ?_ hS ?_
      rotate_left
      · ((intro w hSw; skip; (try dsimp only at hSw); go_simp) <;> with_reducible rfl)
      (try simp only [Act.put, List.setIfInBounds_toArray, List.set_cons_zero, List.set_cons_succ])
      refine wpAnyH_done (by kernel_rfl) ?_ _
      clear hS l0 l1
      go_wp2
      go_roundw
      case rel => exact ⟨k + 1, by go_num, by omega, F.out⟩
      case measure => simp [intOf]; omega
    · obtain rfl : k = l.length := by omega
      rw [List.take_length] at hI
      have F : Hid _ := hI
      clear hI
      go_wp2
      go_ret
      exact ⟨_, rfl, F.out⟩
end Go.Proofs.YtligmiajlbjecaaDoor
